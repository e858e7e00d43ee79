/- A memory with the table of head; what Check, isThread, read and write of package thd answer and do, for all arguments. -/
import Derived.Test.YtaajacmbnigadaaDoorThdA
import Derived.Test.YtaajacmbnigadaaDoorBunHead
namespace Go.Proofs.YtaajacmbnigadaaDoor.Pthd
open Go.Proofs.YtaajacmbnigadaaDoor.Pbase Go.Proofs.YtaajacmbnigadaaDoor.Pfield Go.Proofs.YtaajacmbnigadaaDoor.Play Go.Proofs.YtaajacmbnigadaaDoor.Pmem
open Go.RowKit M
set_option linter.unusedVariables false

/-- A memory and the table. -/
structure Mx (w : World) (p b N : Nat) (M : Nat → Nat → Int) : Prop where
  mem : MemIs w p b N M
  tb : Phead.TabW w
  fit : Fit M
  n1 : 1 ≤ N
  n64 : N ≤ 64
theorem Mx.on {w w' : World} {p b N : Nat} {M : Nat → Nat → Int} (h : Mx w p b N M) (hB : Below w.heap.size w w') : Mx w' p b N M :=
  ⟨h.mem.grown hB, h.tb.on hB, h.fit, h.n1, h.n64⟩
theorem Mx.but {w w' : World} {p b N : Nat} {M M' : Nat → Nat → Int} (h : Mx w p b N M) (hM : MemIs w' p b N M') (hF : Fit M') (hB : But b w w') : Mx w' p b N M' :=
  ⟨hM, h.tb.but hB (Phead.tab_ne h.mem h.tb), hF, h.n1, h.n64⟩
theorem wf_w {c : Th} (h : Fi c) : Wf c.w := by
  obtain ⟨f0, f1, f2, f3, f4⟩ := h
  exact ⟨(asW_fit f0).1, (asW_fit f1).1, (asW_fit f2).1, (asW_fit f3).1, (asW_fit f4).1⟩
theorem wo_any (c : Th) (hc : Fi c) (w : World) : Calls Tryd.prog 20 #[.agg #[.int .i64 c.st, .int .i64 c.co, .int .i64 c.tc, .int .i64 c.rc, .int .i64 c.de]] w fun e w' => e = .returned (.agg #[.int .u64 c.w.st, .int .u64 c.w.co, .int .u64 c.w.tc, .int .u64 c.w.rc, .int .u64 c.w.de]) ∧ Below w.heap.size w w' := by
  have := words_any c w
  rwa [asW_eq hc.1, asW_eq hc.2.1, asW_eq hc.2.2.1, asW_eq hc.2.2.2.1, asW_eq hc.2.2.2.2] at this
/-! ### Check -/
set_option maxRecDepth 100000 in
set_option maxHeartbeats 1000000 in
theorem check_any (c : Th) (hc : Fi c) (w : World) : Calls Tryd.prog 8 #[.agg #[.int .i64 c.st, .int .i64 c.co, .int .i64 c.tc, .int .i64 c.rc, .int .i64 c.de]] w fun e w' => e = .returned (.int .i64 (ckE c)) ∧ Below w.heap.size w w' := by
  have HO : Hid (∀ wc, Calls Tryd.prog 20 #[.agg #[.int .i64 c.st, .int .i64 c.co, .int .i64 c.tc, .int .i64 c.rc, .int .i64 c.de]] wc fun e w' => e = .returned (.agg #[.int .u64 c.w.st, .int .u64 c.w.co, .int .u64 c.w.tc, .int .u64 c.w.rc, .int .u64 c.w.de]) ∧ Below wc.heap.size wc w') := fun wc => wo_any c hc wc
  have HT : Hid (∀ wc, Calls Tryd.prog 19 #[.agg #[.int .u64 c.w.st, .int .u64 c.w.co, .int .u64 c.w.tc, .int .u64 c.w.rc, .int .u64 c.w.de]] wc fun e w' => e = .returned (.tuple #[.agg #[.int .i64 (toX c.w).st, .int .i64 (toX c.w).co, .int .i64 (toX c.w).tc, .int .i64 (toX c.w).rc, .int .i64 (toX c.w).de], .bool (toB c)]) ∧ Below wc.heap.size wc w') := fun wc => by
    have := thread_any c.w (wf_w hc) wc
    rwa [toB_w hc] at this
  clear hc
  generalize toX c.w = y at HT
  generalize c.w = x at HO HT
  have e : ckE c = if toB c = true then 0 else 1 := rfl
  rw [e]
  generalize toB c = R at HT
  have Hw : Hid (Below w.heap.size w (w.alloc (.cells #[.int .i64 c.st, .int .i64 c.co, .int .i64 c.tc, .int .i64 c.rc, .int .i64 c.de] 23))) := bal (Below.refl _ _) _
  cases R
  all_goals
    go_enter Tryd.func8, Tryd.ntmps8
    go_wp2_with (first
      | (go_at_call 20; refine (HO.out _).mono ?_; rintro e1 w1 ⟨rfl, hb⟩; have H1 : Hid (Below w.heap.size w w1) := Hw.out.trans (hb.mono Hw.out.size); clear hb HO Hw)
      | (go_at_call 19; refine (HT.out _).mono ?_; rintro e2 w2 ⟨rfl, hb⟩; have H2 : Hid (Below w.heap.size w w2) := H1.out.trans (hb.mono H1.out.size); clear hb HT H1)
      | fail)
    go_ret
    exact ⟨rfl, bal H2.out _⟩
/-! ### isThread -/
set_option maxRecDepth 100000 in
theorem isT_any (p b N : Nat) (f : Int) (M : Nat → Nat → Int) (w : World) (hM : Mx w p b N M) : Calls Tryd.prog 21 #[.pointer (some ⟨p, 0, none⟩), .int .i64 f] w fun e w' => e = .returned (.bool (Phead.isE N M f 4 == 0)) ∧ Below w.heap.size w w' := by
  have HI : Hid (Calls Tryd.prog 36 #[.pointer (some ⟨p, 0, none⟩), .int .i64 f, .int .i64 4] w fun e w' => e = .returned (.int .i64 (Phead.isE N M f 4)) ∧ Below w.heap.size w w') := Phead.his_any p b N f 4 M w hM.n1 hM.n64 hM.mem hM.tb hM.fit
  clear hM
  generalize Phead.isE N M f 4 = E at HI ⊢
  go_enter Tryd.func21, Tryd.ntmps21
  go_wp2_with (first
    | (go_at_call 36; refine HI.out.mono ?_; rintro e1 w1 ⟨rfl, hb⟩; have H1 := rhide hb; clear hb HI)
    | fail)
  go_ret
  exact ⟨rfl, H1.out⟩
/-! ### read -/
/-- The words that were read, k of them. -/
def rdL (x : Th) : Nat → List Value
  | 0 => [.int .u64 0, .int .u64 0, .int .u64 0, .int .u64 0, .int .u64 0]
  | 1 => [.int .u64 x.st, .int .u64 0, .int .u64 0, .int .u64 0, .int .u64 0]
  | 2 => [.int .u64 x.st, .int .u64 x.co, .int .u64 0, .int .u64 0, .int .u64 0]
  | 3 => [.int .u64 x.st, .int .u64 x.co, .int .u64 x.tc, .int .u64 0, .int .u64 0]
  | 4 => [.int .u64 x.st, .int .u64 x.co, .int .u64 x.tc, .int .u64 x.rc, .int .u64 0]
  | _ => [.int .u64 x.st, .int .u64 x.co, .int .u64 x.tc, .int .u64 x.rc, .int .u64 x.de]
structure RdI (w W : World) (p b N : Nat) (M : Nat → Nat → Int) (x : Th) (k : Nat) : Prop where
  res : RowV W w.heap.size (rdL x 0)
  all : RowV W (w.heap.size + 1) (rdL x k)
  mem : MemIs W p b N M
  below : Below w.heap.size w W
theorem rd_new {w : World} {p b N : Nat} {M : Nat → Nat → Int} (x : Th) (h : MemIs w p b N M) : RdI w ((w.alloc (.cells #[.int .u64 0, .int .u64 0, .int .u64 0, .int .u64 0, .int .u64 0] 56)).alloc (.cells #[.int .u64 0, .int .u64 0, .int .u64 0, .int .u64 0, .int .u64 0] 56)) p b N M x 0 := by
  have b0 := rowV_new w (rdL x 0) 56
  have b1 := rowV_new (w.alloc (.cells #[.int .u64 0, .int .u64 0, .int .u64 0, .int .u64 0, .int .u64 0] 56)) (rdL x 0) 56
  simp only [World.size_alloc] at b1
  exact ⟨b0.on (bal (Below.refl _ _) _), b1, h.grown (bal (bal (Below.refl _ _) _) _), bal (bal (Below.refl _ _) _) _⟩
theorem RdI.step {w W : World} {p b N : Nat} {M : Nat → Nat → Int} {x : Th} {k j : Nat} (h : RdI w W p b N M x k) (hp : p < w.heap.size) (hb : b < w.heap.size) (i : Nat) (v : Value) (hv : (rdL x k).set i v = rdL x j) : RdI w (W.setCell ⟨w.heap.size + 1, i, none⟩ v) p b N M x j :=
  ⟨h.res.other (by omega) _ _, by rw [← hv]; exact h.all.set i v, h.mem.on (heap_setCell_other _ _ _ _ (by show p ≠ w.heap.size + 1; omega)) (heap_setCell_other _ _ _ _ (by show b ≠ w.heap.size + 1; omega)), bst h.below (by omega) _ _⟩
set_option maxRecDepth 100000 in
set_option maxHeartbeats 2000000 in
theorem read_any (p b N : Nat) (f : Int) (M : Nat → Nat → Int) (w : World) (hM : Mx w p b N M) (hf : okF N f = true) : Calls Tryd.prog 22 #[.pointer (some ⟨p, 0, none⟩), .int .i64 f] w fun e w' => e = .returned (.tuple #[.agg #[.int .u64 (thOf M f).st, .int .u64 (thOf M f).co, .int .u64 (thOf M f).tc, .int .u64 (thOf M f).rc, .int .u64 (thOf M f).de], .int .i64 0]) ∧ Below w.heap.size w w' := by
  have hL : ∀ k : Nat, k < 5 → ∀ wc, MemIs wc p b N M → Calls Tryd.prog 30 #[.pointer (some ⟨p, 0, none⟩), .int .i64 f, .int .i64 ((4 + k : Nat) : Int)] wc fun e w' => e = .returned (.tuple #[.int .u64 (M f.toNat (4 + k)), .int .i64 0]) ∧ w' = wc := fun k hk wc h => by
    have := Pmem.load_any p b N f ((4 + k : Nat) : Int) M wc hM.n1 hM.n64 h
    have ho : okW N f ((4 + k : Nat) : Int) = true := by unfold okW; rw [hf]; simp; omega
    rwa [show errW N f ((4 + k : Nat) : Int) = 0 by unfold errW; rw [ho]; rfl, show ldM N M f ((4 + k : Nat) : Int) = M f.toNat (4 + k) by unfold ldM; rw [ho]; rfl] at this
  have HL0 : Hid (∀ wc, MemIs wc p b N M → Calls Tryd.prog 30 #[.pointer (some ⟨p, 0, none⟩), .int .i64 f, .int .i64 4] wc fun e w' => e = .returned (.tuple #[.int .u64 (thOf M f).st, .int .i64 0]) ∧ w' = wc) := hL 0 (by omega)
  have HL1 : Hid (∀ wc, MemIs wc p b N M → Calls Tryd.prog 30 #[.pointer (some ⟨p, 0, none⟩), .int .i64 f, .int .i64 5] wc fun e w' => e = .returned (.tuple #[.int .u64 (thOf M f).co, .int .i64 0]) ∧ w' = wc) := hL 1 (by omega)
  have HL2 : Hid (∀ wc, MemIs wc p b N M → Calls Tryd.prog 30 #[.pointer (some ⟨p, 0, none⟩), .int .i64 f, .int .i64 6] wc fun e w' => e = .returned (.tuple #[.int .u64 (thOf M f).tc, .int .i64 0]) ∧ w' = wc) := hL 2 (by omega)
  have HL3 : Hid (∀ wc, MemIs wc p b N M → Calls Tryd.prog 30 #[.pointer (some ⟨p, 0, none⟩), .int .i64 f, .int .i64 7] wc fun e w' => e = .returned (.tuple #[.int .u64 (thOf M f).rc, .int .i64 0]) ∧ w' = wc) := hL 3 (by omega)
  have HL4 : Hid (∀ wc, MemIs wc p b N M → Calls Tryd.prog 30 #[.pointer (some ⟨p, 0, none⟩), .int .i64 f, .int .i64 8] wc fun e w' => e = .returned (.tuple #[.int .u64 (thOf M f).de, .int .i64 0]) ∧ w' = wc) := hL 4 (by omega)
  have H0 : Hid (RdI w _ p b N M (thOf M f) 0) := rd_new (thOf M f) hM.mem
  have hp := hM.mem.lt.1
  have hb := hM.mem.lt.2
  clear hL hM hf
  generalize thOf M f = x at *
  go_enter Tryd.func22, Tryd.ntmps22
  go_wp2
  generalize (w.alloc _).alloc _ = w1 at H0 ⊢
  go_loopw [10] (fun i wr => ∃ k : Nat, k ≤ 5 ∧ i = .int .i64 k ∧ RdI w wr p b N M x k) (fun i _ => 5 - (intOf i).toNat)
  case atStart => exact ⟨0, by omega, rfl, H0.out⟩
  case round =>
    obtain ⟨k, hk, rfl, hI⟩ := hrel
    have HI := rhide hI
    clear hI H0
    rcases (show k = 0 ∨ k = 1 ∨ k = 2 ∨ k = 3 ∨ k = 4 ∨ k = 5 by omega) with rfl | rfl | rfl | rfl | rfl | rfl
    · have y : wr.cell? ⟨w.heap.size + 1, 0, none⟩ = some (.int .u64 0) := HI.out.all.cell 0
      have z := HI.out.all.fz 0
      go_wp2_with (first
        | (go_at_call 30; refine (HL0.out _ HI.out.mem).mono ?_; rintro e2 w2 ⟨rfl, hw⟩; subst w2)
        | fail)
      go_roundw
      case rel => exact ⟨0 + 1, by omega, rfl, HI.out.step (j := 0 + 1) hp hb 0 _ rfl⟩
      case measure => simp [intOf]
    · have y : wr.cell? ⟨w.heap.size + 1, 1, none⟩ = some (.int .u64 0) := HI.out.all.cell 1
      have z := HI.out.all.fz 1
      go_wp2_with (first
        | (go_at_call 30; refine (HL1.out _ HI.out.mem).mono ?_; rintro e2 w2 ⟨rfl, hw⟩; subst w2)
        | fail)
      go_roundw
      case rel => exact ⟨1 + 1, by omega, rfl, HI.out.step (j := 1 + 1) hp hb 1 _ rfl⟩
      case measure => simp [intOf]
    · have y : wr.cell? ⟨w.heap.size + 1, 2, none⟩ = some (.int .u64 0) := HI.out.all.cell 2
      have z := HI.out.all.fz 2
      go_wp2_with (first
        | (go_at_call 30; refine (HL2.out _ HI.out.mem).mono ?_; rintro e2 w2 ⟨rfl, hw⟩; subst w2)
        | fail)
      go_roundw
      case rel => exact ⟨2 + 1, by omega, rfl, HI.out.step (j := 2 + 1) hp hb 2 _ rfl⟩
      case measure => simp [intOf]
    · have y : wr.cell? ⟨w.heap.size + 1, 3, none⟩ = some (.int .u64 0) := HI.out.all.cell 3
      have z := HI.out.all.fz 3
      go_wp2_with (first
        | (go_at_call 30; refine (HL3.out _ HI.out.mem).mono ?_; rintro e2 w2 ⟨rfl, hw⟩; subst w2)
        | fail)
      go_roundw
      case rel => exact ⟨3 + 1, by omega, rfl, HI.out.step (j := 3 + 1) hp hb 3 _ rfl⟩
      case measure => simp [intOf]
    · have y : wr.cell? ⟨w.heap.size + 1, 4, none⟩ = some (.int .u64 0) := HI.out.all.cell 4
      have z := HI.out.all.fz 4
      go_wp2_with (first
        | (go_at_call 30; refine (HL4.out _ HI.out.mem).mono ?_; rintro e2 w2 ⟨rfl, hw⟩; subst w2)
        | fail)
      go_roundw
      case rel => exact ⟨4 + 1, by omega, rfl, HI.out.step (j := 4 + 1) hp hb 4 _ rfl⟩
      case measure => simp [intOf]
    · have x0 : wr.cell? ⟨w.heap.size + 1, 0, none⟩ = some (.int .u64 x.st) := HI.out.all.cell 0
      have x1 : wr.cell? ⟨w.heap.size + 1, 1, none⟩ = some (.int .u64 x.co) := HI.out.all.cell 1
      have x2 : wr.cell? ⟨w.heap.size + 1, 2, none⟩ = some (.int .u64 x.tc) := HI.out.all.cell 2
      have x3 : wr.cell? ⟨w.heap.size + 1, 3, none⟩ = some (.int .u64 x.rc) := HI.out.all.cell 3
      have x4 : wr.cell? ⟨w.heap.size + 1, 4, none⟩ = some (.int .u64 x.de) := HI.out.all.cell 4
      have y0 : wr.cell? ⟨w.heap.size, 0, none⟩ = some (.int .u64 0) := HI.out.res.cell 0
      have y1 : wr.cell? ⟨w.heap.size, 1, none⟩ = some (.int .u64 0) := HI.out.res.cell 1
      have y2 : wr.cell? ⟨w.heap.size, 2, none⟩ = some (.int .u64 0) := HI.out.res.cell 2
      have y3 : wr.cell? ⟨w.heap.size, 3, none⟩ = some (.int .u64 0) := HI.out.res.cell 3
      have y4 : wr.cell? ⟨w.heap.size, 4, none⟩ = some (.int .u64 0) := HI.out.res.cell 4
      have z := HI.out.res.fz
      go_wp2
      refine bodyPost_ret (v := .tuple #[.agg #[.int .u64 x.st, .int .u64 x.co, .int .u64 x.tc, .int .u64 x.rc, .int .u64 x.de], .int .i64 0]) (by simp [results, Tryd.results22, go_sem, y0, y1, y2, y3, y4]) rfl ⟨rfl, ?_⟩
      exact bst (bst (bst (bst (bst HI.out.below (by omega) _ _) (by omega) _ _) (by omega) _ _) (by omega) _ _) (by omega) _ _
theorem wix0 (x : Th) : ∀ w : World, (Instr.index 56 (.agg #[.int .u64 x.st, .int .u64 x.co, .int .u64 x.tc, .int .u64 x.rc, .int .u64 x.de]) (.int .i64 0)).run Tryd.prog w = .ok (.int .u64 x.st) w := fun _ => by kernel_rfl
theorem wix1 (x : Th) : ∀ w : World, (Instr.index 56 (.agg #[.int .u64 x.st, .int .u64 x.co, .int .u64 x.tc, .int .u64 x.rc, .int .u64 x.de]) (.int .i64 1)).run Tryd.prog w = .ok (.int .u64 x.co) w := fun _ => by kernel_rfl
theorem wix2 (x : Th) : ∀ w : World, (Instr.index 56 (.agg #[.int .u64 x.st, .int .u64 x.co, .int .u64 x.tc, .int .u64 x.rc, .int .u64 x.de]) (.int .i64 2)).run Tryd.prog w = .ok (.int .u64 x.tc) w := fun _ => by kernel_rfl
theorem wix3 (x : Th) : ∀ w : World, (Instr.index 56 (.agg #[.int .u64 x.st, .int .u64 x.co, .int .u64 x.tc, .int .u64 x.rc, .int .u64 x.de]) (.int .i64 3)).run Tryd.prog w = .ok (.int .u64 x.rc) w := fun _ => by kernel_rfl
theorem wix4 (x : Th) : ∀ w : World, (Instr.index 56 (.agg #[.int .u64 x.st, .int .u64 x.co, .int .u64 x.tc, .int .u64 x.rc, .int .u64 x.de]) (.int .i64 4)).run Tryd.prog w = .ok (.int .u64 x.de) w := fun _ => by kernel_rfl
structure WrI (w W : World) (p b N : Nat) (M : Nat → Nat → Int) : Prop where
  mem : MemIs W p b N M
  but : But b w W
theorem WrI.turn {w W : World} {p b N : Nat} {M M' : Nat → Nat → Int} (h : WrI w W p b N M) (he : M' = M') : WrI w (W.setRow b (cellsM N M')) p b N M' := ⟨h.mem.set M', h.but.setRow _⟩
/-- The memory behind k stores. -/
def laK (N : Nat) (M : Nat → Nat → Int) (f : Int) (c : Th) (k : Nat) : Nat → Nat → Int := layF N M f (c.ws.take k)
theorem laK0 (N : Nat) (M : Nat → Nat → Int) (f : Int) (c : Th) : stW N (laK N M f c 0) f 4 c.st = laK N M f c 1 := lay_step (l := c.ws.take 0) (by show 0 < 32; omega) c.st
theorem laK1 (N : Nat) (M : Nat → Nat → Int) (f : Int) (c : Th) : stW N (laK N M f c 1) f 5 c.co = laK N M f c 2 := lay_step (l := c.ws.take 1) (by show 1 < 32; omega) c.co
theorem laK2 (N : Nat) (M : Nat → Nat → Int) (f : Int) (c : Th) : stW N (laK N M f c 2) f 6 c.tc = laK N M f c 3 := lay_step (l := c.ws.take 2) (by show 2 < 32; omega) c.tc
theorem laK3 (N : Nat) (M : Nat → Nat → Int) (f : Int) (c : Th) : stW N (laK N M f c 3) f 7 c.rc = laK N M f c 4 := lay_step (l := c.ws.take 3) (by show 3 < 32; omega) c.rc
theorem laK4 (N : Nat) (M : Nat → Nat → Int) (f : Int) (c : Th) : stW N (laK N M f c 4) f 8 c.de = laK N M f c 5 := lay_step (l := c.ws.take 4) (by show 4 < 32; omega) c.de
set_option maxRecDepth 100000 in
set_option maxHeartbeats 2000000 in
theorem write_any (p b N : Nat) (f : Int) (c : Th) (M : Nat → Nat → Int) (w : World) (hM : Mx w p b N M) (hc : To c) (hf : okF N f = true) :
    Calls Tryd.prog 18 #[.pointer (some ⟨p, 0, none⟩), .int .i64 f, .agg #[.int .i64 c.st, .int .i64 c.co, .int .i64 c.tc, .int .i64 c.rc, .int .i64 c.de]] w fun e w' => e = .returned (.int .i64 0) ∧ Mx w' p b N (layF N M f c.ws) ∧ But b w w' := by
  have HO : Hid (∀ wc, Calls Tryd.prog 20 #[.agg #[.int .i64 c.st, .int .i64 c.co, .int .i64 c.tc, .int .i64 c.rc, .int .i64 c.de]] wc fun e w' => e = .returned (.agg #[.int .u64 c.st, .int .u64 c.co, .int .u64 c.tc, .int .u64 c.rc, .int .u64 c.de]) ∧ Below wc.heap.size wc w') := fun wc => by
    have := wo_any c hc.fi wc
    rwa [w_to hc] at this
  have hS : ∀ (k : Nat) (v : Int) (M1 : Nat → Nat → Int), k < 5 → ∀ wc, WrI w wc p b N M1 → Calls Tryd.prog 28 #[.pointer (some ⟨p, 0, none⟩), .int .i64 f, .int .i64 ((4 + k : Nat) : Int), .int .u64 v] wc fun e w' => e = .returned (.int .i64 0) ∧ WrI w w' p b N (stW N M1 f ((4 + k : Nat) : Int) v) := fun k v M1 hk wc h => by
    have := store_any p b N f ((4 + k : Nat) : Int) v M1 wc hM.n1 hM.n64 h.mem
    have ho : okW N f ((4 + k : Nat) : Int) = true := by unfold okW; rw [hf]; simp; omega
    rw [show errW N f ((4 + k : Nat) : Int) = 0 by unfold errW; rw [ho]; rfl] at this
    exact this.mono fun e w' ⟨h1, h2⟩ => ⟨h1, by rw [h2]; exact h.turn rfl⟩
  have HS0 : Hid (∀ wc, WrI w wc p b N (laK N M f c 0) → Calls Tryd.prog 28 #[.pointer (some ⟨p, 0, none⟩), .int .i64 f, .int .i64 4, .int .u64 c.st] wc fun e w' => e = .returned (.int .i64 0) ∧ WrI w w' p b N (laK N M f c 1)) := fun wc h => by
    have := hS 0 c.st _ (by omega) wc h
    rwa [show ((4 + 0 : Nat) : Int) = 4 from rfl, laK0] at this
  have i0 := wix0 c
  have HS1 : Hid (∀ wc, WrI w wc p b N (laK N M f c 1) → Calls Tryd.prog 28 #[.pointer (some ⟨p, 0, none⟩), .int .i64 f, .int .i64 5, .int .u64 c.co] wc fun e w' => e = .returned (.int .i64 0) ∧ WrI w w' p b N (laK N M f c 2)) := fun wc h => by
    have := hS 1 c.co _ (by omega) wc h
    rwa [show ((4 + 1 : Nat) : Int) = 5 from rfl, laK1] at this
  have i1 := wix1 c
  have HS2 : Hid (∀ wc, WrI w wc p b N (laK N M f c 2) → Calls Tryd.prog 28 #[.pointer (some ⟨p, 0, none⟩), .int .i64 f, .int .i64 6, .int .u64 c.tc] wc fun e w' => e = .returned (.int .i64 0) ∧ WrI w w' p b N (laK N M f c 3)) := fun wc h => by
    have := hS 2 c.tc _ (by omega) wc h
    rwa [show ((4 + 2 : Nat) : Int) = 6 from rfl, laK2] at this
  have i2 := wix2 c
  have HS3 : Hid (∀ wc, WrI w wc p b N (laK N M f c 3) → Calls Tryd.prog 28 #[.pointer (some ⟨p, 0, none⟩), .int .i64 f, .int .i64 7, .int .u64 c.rc] wc fun e w' => e = .returned (.int .i64 0) ∧ WrI w w' p b N (laK N M f c 4)) := fun wc h => by
    have := hS 3 c.rc _ (by omega) wc h
    rwa [show ((4 + 3 : Nat) : Int) = 7 from rfl, laK3] at this
  have i3 := wix3 c
  have HS4 : Hid (∀ wc, WrI w wc p b N (laK N M f c 4) → Calls Tryd.prog 28 #[.pointer (some ⟨p, 0, none⟩), .int .i64 f, .int .i64 8, .int .u64 c.de] wc fun e w' => e = .returned (.int .i64 0) ∧ WrI w w' p b N (laK N M f c 5)) := fun wc h => by
    have := hS 4 c.de _ (by omega) wc h
    rwa [show ((4 + 4 : Nat) : Int) = 8 from rfl, laK4] at this
  have i4 := wix4 c
  have Hw : Hid (WrI w (w.alloc (.cells #[.int .i64 c.st, .int .i64 c.co, .int .i64 c.tc, .int .i64 c.rc, .int .i64 c.de] 23)) p b N (laK N M f c 0)) := by
    have e : laK N M f c 0 = M := lay_nil N M f
    rw [e]
    exact ⟨hM.mem.grown (bal (Below.refl _ _) _), But.of_below b (bal (Below.refl _ _) _)⟩
  have HE : Hid (∀ W, WrI w W p b N (laK N M f c 5) → Mx W p b N (layF N M f c.ws) ∧ But b w W) := fun W h => ⟨hM.but h.mem (fit_lay hM.fit N f hc.fit) h.but, h.but⟩
  clear hS hM hf hc
  generalize layF N M f c.ws = M5 at HE ⊢
  generalize laK N M f c = K at *
  go_enter Tryd.func18, Tryd.ntmps18
  go_wp2_with (first
    | (go_at_call 20; refine (HO.out _).mono ?_; rintro e1 w1 ⟨rfl, hb⟩; have H1 : Hid (WrI w w1 p b N (K 0)) := ⟨Hw.out.mem.grown hb, Hw.out.but.trans (But.of_below b hb)⟩; clear hb HO Hw)
    | fail)
  go_loopw [12] (fun i wr => ∃ k : Nat, k ≤ 5 ∧ i = .int .i64 k ∧ WrI w wr p b N (K k)) (fun i _ => 5 - (intOf i).toNat)
  case atStart => exact ⟨0, by omega, rfl, H1.out⟩
  case round =>
    obtain ⟨k, hk, rfl, hI⟩ := hrel
    have HI := rhide hI
    clear hI H1
    rcases (show k = 0 ∨ k = 1 ∨ k = 2 ∨ k = 3 ∨ k = 4 ∨ k = 5 by omega) with rfl | rfl | rfl | rfl | rfl | rfl
    · go_wp2_with (first
        | (go_at_call 28; refine (HS0.out _ HI.out).mono ?_; rintro e2 w2 ⟨rfl, hw⟩; have H2 := rhide hw; clear hw)
        | fail)
      go_roundw
      case rel => exact ⟨0 + 1, by omega, rfl, H2.out⟩
      case measure => simp [intOf]
    · go_wp2_with (first
        | (go_at_call 28; refine (HS1.out _ HI.out).mono ?_; rintro e2 w2 ⟨rfl, hw⟩; have H2 := rhide hw; clear hw)
        | fail)
      go_roundw
      case rel => exact ⟨1 + 1, by omega, rfl, H2.out⟩
      case measure => simp [intOf]
    · go_wp2_with (first
        | (go_at_call 28; refine (HS2.out _ HI.out).mono ?_; rintro e2 w2 ⟨rfl, hw⟩; have H2 := rhide hw; clear hw)
        | fail)
      go_roundw
      case rel => exact ⟨2 + 1, by omega, rfl, H2.out⟩
      case measure => simp [intOf]
    · go_wp2_with (first
        | (go_at_call 28; refine (HS3.out _ HI.out).mono ?_; rintro e2 w2 ⟨rfl, hw⟩; have H2 := rhide hw; clear hw)
        | fail)
      go_roundw
      case rel => exact ⟨3 + 1, by omega, rfl, H2.out⟩
      case measure => simp [intOf]
    · go_wp2_with (first
        | (go_at_call 28; refine (HS4.out _ HI.out).mono ?_; rintro e2 w2 ⟨rfl, hw⟩; have H2 := rhide hw; clear hw)
        | fail)
      go_roundw
      case rel => exact ⟨4 + 1, by omega, rfl, H2.out⟩
      case measure => simp [intOf]
    · go_wp2
      go_ret
      exact ⟨rfl, HE.out _ HI.out⟩
end Go.Proofs.YtaajacmbnigadaaDoor.Pthd
