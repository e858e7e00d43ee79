/- A memory with the table of head; what isBudget, read and write of package tcap answer and do, for all arguments (written by mk_rw.py). -/
import Derived.Test.YtlnckhebikiclaaDoorTcpA
import Derived.Test.YtlnckhebikiclaaDoorBunHead
namespace Go.Proofs.YtlnckhebikiclaaDoor.Ptcap
open Go.Proofs.YtlnckhebikiclaaDoor.Pbase Go.Proofs.YtlnckhebikiclaaDoor.Pfield Go.Proofs.YtlnckhebikiclaaDoor.Play Go.Proofs.YtlnckhebikiclaaDoor.Pmem
open Go.RowKit M
set_option linter.unusedVariables false

/-- A memory and the table. -/
structure Mx (w : World) (p b N : Nat) (M : Nat → Nat → Int) : Prop where
  mem : MemIs w p b N M
  tb : Phead.TabW w
  fit : Fit M
  n1 : 1 ≤ N
  n64 : N ≤ 64
theorem Mx.on {w w' : World} {p b N : Nat} {M : Nat → Nat → Int} (h : Mx w p b N M) (hB : Below w.heap.size w w') : Mx w' p b N M :=
  ⟨h.mem.grown hB, h.tb.on hB, h.fit, h.n1, h.n64⟩
theorem Mx.but {w w' : World} {p b N : Nat} {M M' : Nat → Nat → Int} (h : Mx w p b N M) (hM : MemIs w' p b N M') (hF : Fit M') (hB : But b w w') : Mx w' p b N M' :=
  ⟨hM, h.tb.but hB (Phead.tab_ne h.mem h.tb), hF, h.n1, h.n64⟩
/-! ### isBudget -/
set_option maxRecDepth 100000 in
theorem isB_any (p b N : Nat) (f : Int) (M : Nat → Nat → Int) (w : World) (hM : Mx w p b N M) : Calls Tryd.prog 36 #[.pointer (some ⟨p, 0, none⟩), .int .i64 f] w fun e w' => e = .returned (.bool (Phead.isE N M f 5 == 0)) ∧ Below w.heap.size w w' := by
  have HI : Hid (Calls Tryd.prog 59 #[.pointer (some ⟨p, 0, none⟩), .int .i64 f, .int .i64 5] w fun e w' => e = .returned (.int .i64 (Phead.isE N M f 5)) ∧ Below w.heap.size w w') := Phead.his_any p b N f 5 M w hM.n1 hM.n64 hM.mem hM.tb hM.fit
  clear hM
  generalize Phead.isE N M f 5 = E at HI ⊢
  go_enter Tryd.func36, Tryd.ntmps36
  go_wp2_with (first
    | (go_at_call 59; refine HI.out.mono ?_; rintro e1 w1 ⟨rfl, hb⟩; have H1 := rhide hb; clear hb HI)
    | fail)
  go_ret
  exact ⟨rfl, H1.out⟩
/-! ### read -/
/-- The words that were read, k of them. -/
def rdL (x y z : Int) : Nat → List Value
  | 0 => [.int .u64 0, .int .u64 0, .int .u64 0]
  | 1 => [.int .u64 x, .int .u64 0, .int .u64 0]
  | 2 => [.int .u64 x, .int .u64 y, .int .u64 0]
  | _ => [.int .u64 x, .int .u64 y, .int .u64 z]
structure RdI (w W : World) (p b N : Nat) (M : Nat → Nat → Int) (x y z : Int) (k : Nat) : Prop where
  res : RowV W w.heap.size (rdL x y z 0)
  all : RowV W (w.heap.size + 1) (rdL x y z k)
  mem : MemIs W p b N M
  below : Below w.heap.size w W
theorem rd_new {w : World} {p b N : Nat} {M : Nat → Nat → Int} (x y z : Int) (h : MemIs w p b N M) : RdI w ((w.alloc (.cells #[.int .u64 0, .int .u64 0, .int .u64 0] 80)).alloc (.cells #[.int .u64 0, .int .u64 0, .int .u64 0] 80)) p b N M x y z 0 := by
  have b0 := rowV_new w (rdL x y z 0) 80
  have b1 := rowV_new (w.alloc (.cells #[.int .u64 0, .int .u64 0, .int .u64 0] 80)) (rdL x y z 0) 80
  simp only [World.size_alloc] at b1
  exact ⟨b0.on (bal (Below.refl _ _) _), b1, h.grown (bal (bal (Below.refl _ _) _) _), bal (bal (Below.refl _ _) _) _⟩
theorem RdI.step {w W : World} {p b N : Nat} {M : Nat → Nat → Int} {x y z : Int} {k j : Nat} (h : RdI w W p b N M x y z k) (hp : p < w.heap.size) (hb : b < w.heap.size) (i : Nat) (v : Value) (hv : (rdL x y z k).set i v = rdL x y z j) : RdI w (W.setCell ⟨w.heap.size + 1, i, none⟩ v) p b N M x y z j :=
  ⟨h.res.other (by omega) _ _, by rw [← hv]; exact h.all.set i v, h.mem.on (heap_setCell_other _ _ _ _ (by show p ≠ w.heap.size + 1; omega)) (heap_setCell_other _ _ _ _ (by show b ≠ w.heap.size + 1; omega)), bst h.below (by omega) _ _⟩
set_option maxRecDepth 100000 in
set_option maxHeartbeats 2000000 in
theorem read_any (p b N : Nat) (f : Int) (M : Nat → Nat → Int) (w : World) (hM : Mx w p b N M) (hf : okF N f = true) : Calls Tryd.prog 44 #[.pointer (some ⟨p, 0, none⟩), .int .i64 f] w fun e w' => e = .returned (.tuple #[.agg #[.int .u64 (M f.toNat 4), .int .u64 (M f.toNat 5), .int .u64 (M f.toNat 6)], .int .i64 0]) ∧ Below w.heap.size w w' := by
  have hL : ∀ k : Nat, k < 3 → ∀ wc, MemIs wc p b N M → Calls Tryd.prog 63 #[.pointer (some ⟨p, 0, none⟩), .int .i64 f, .int .i64 ((4 + k : Nat) : Int)] wc fun e w' => e = .returned (.tuple #[.int .u64 (M f.toNat (4 + k)), .int .i64 0]) ∧ w' = wc := fun k hk wc h => by
    have := Pmem.load_any p b N f ((4 + k : Nat) : Int) M wc hM.n1 hM.n64 h
    have ho : okW N f ((4 + k : Nat) : Int) = true := by unfold okW; rw [hf]; simp; omega
    rwa [show errW N f ((4 + k : Nat) : Int) = 0 by unfold errW; rw [ho]; rfl, show ldM N M f ((4 + k : Nat) : Int) = M f.toNat (4 + k) by unfold ldM; rw [ho]; rfl] at this
  have HL0 : Hid (∀ wc, MemIs wc p b N M → Calls Tryd.prog 63 #[.pointer (some ⟨p, 0, none⟩), .int .i64 f, .int .i64 4] wc fun e w' => e = .returned (.tuple #[.int .u64 (M f.toNat 4), .int .i64 0]) ∧ w' = wc) := hL 0 (by omega)
  have HL1 : Hid (∀ wc, MemIs wc p b N M → Calls Tryd.prog 63 #[.pointer (some ⟨p, 0, none⟩), .int .i64 f, .int .i64 5] wc fun e w' => e = .returned (.tuple #[.int .u64 (M f.toNat 5), .int .i64 0]) ∧ w' = wc) := hL 1 (by omega)
  have HL2 : Hid (∀ wc, MemIs wc p b N M → Calls Tryd.prog 63 #[.pointer (some ⟨p, 0, none⟩), .int .i64 f, .int .i64 6] wc fun e w' => e = .returned (.tuple #[.int .u64 (M f.toNat 6), .int .i64 0]) ∧ w' = wc) := hL 2 (by omega)
  have H0 : Hid (RdI w _ p b N M (M f.toNat 4) (M f.toNat 5) (M f.toNat 6) 0) := rd_new _ _ _ hM.mem
  have hp := hM.mem.lt.1
  have hb := hM.mem.lt.2
  clear hL hM hf
  generalize M f.toNat 4 = x at *
  generalize M f.toNat 5 = y at *
  generalize M f.toNat 6 = z at *
  go_enter Tryd.func44, Tryd.ntmps44
  go_wp2
  generalize (w.alloc _).alloc _ = w1 at H0 ⊢
  go_loopw [10] (fun i wr => ∃ k : Nat, k ≤ 3 ∧ i = .int .i64 k ∧ RdI w wr p b N M x y z k) (fun i _ => 3 - (intOf i).toNat)
  case atStart => exact ⟨0, by omega, rfl, H0.out⟩
  case round =>
    obtain ⟨k, hk, rfl, hI⟩ := hrel
    have HI := rhide hI
    clear hI H0
    rcases (show k = 0 ∨ k = 1 ∨ k = 2 ∨ k = 3 by omega) with rfl | rfl | rfl | rfl
    · have y0 : wr.cell? ⟨w.heap.size + 1, 0, none⟩ = some (.int .u64 0) := HI.out.all.cell 0
      have z0 := HI.out.all.fz 0
      go_wp2_with (first
        | (go_at_call 63; refine (HL0.out _ HI.out.mem).mono ?_; rintro e2 w2 ⟨rfl, hw⟩; subst w2)
        | fail)
      go_roundw
      case rel => exact ⟨0 + 1, by omega, rfl, HI.out.step (j := 0 + 1) hp hb 0 _ rfl⟩
      case measure => simp [intOf]
    · have y0 : wr.cell? ⟨w.heap.size + 1, 1, none⟩ = some (.int .u64 0) := HI.out.all.cell 1
      have z0 := HI.out.all.fz 1
      go_wp2_with (first
        | (go_at_call 63; refine (HL1.out _ HI.out.mem).mono ?_; rintro e2 w2 ⟨rfl, hw⟩; subst w2)
        | fail)
      go_roundw
      case rel => exact ⟨1 + 1, by omega, rfl, HI.out.step (j := 1 + 1) hp hb 1 _ rfl⟩
      case measure => simp [intOf]
    · have y0 : wr.cell? ⟨w.heap.size + 1, 2, none⟩ = some (.int .u64 0) := HI.out.all.cell 2
      have z0 := HI.out.all.fz 2
      go_wp2_with (first
        | (go_at_call 63; refine (HL2.out _ HI.out.mem).mono ?_; rintro e2 w2 ⟨rfl, hw⟩; subst w2)
        | fail)
      go_roundw
      case rel => exact ⟨2 + 1, by omega, rfl, HI.out.step (j := 2 + 1) hp hb 2 _ rfl⟩
      case measure => simp [intOf]
    · have x0 : wr.cell? ⟨w.heap.size + 1, 0, none⟩ = some (.int .u64 x) := HI.out.all.cell 0
      have x1 : wr.cell? ⟨w.heap.size + 1, 1, none⟩ = some (.int .u64 y) := HI.out.all.cell 1
      have x2 : wr.cell? ⟨w.heap.size + 1, 2, none⟩ = some (.int .u64 z) := HI.out.all.cell 2
      have y0 : wr.cell? ⟨w.heap.size, 0, none⟩ = some (.int .u64 0) := HI.out.res.cell 0
      have y1 : wr.cell? ⟨w.heap.size, 1, none⟩ = some (.int .u64 0) := HI.out.res.cell 1
      have y2 : wr.cell? ⟨w.heap.size, 2, none⟩ = some (.int .u64 0) := HI.out.res.cell 2
      have z0 := HI.out.res.fz
      go_wp2
      refine bodyPost_ret (v := .tuple #[.agg #[.int .u64 x, .int .u64 y, .int .u64 z], .int .i64 0]) (by simp [results, Tryd.results44, go_sem, y0, y1, y2]) rfl ⟨rfl, ?_⟩
      exact bst (bst (bst HI.out.below (by omega) _ _) (by omega) _ _) (by omega) _ _
theorem wix0 (x y z : Int) : ∀ w : World, (Instr.index 80 (.agg #[.int .u64 x, .int .u64 y, .int .u64 z]) (.int .i64 0)).run Tryd.prog w = .ok (.int .u64 x) w := fun _ => by kernel_rfl
theorem wix1 (x y z : Int) : ∀ w : World, (Instr.index 80 (.agg #[.int .u64 x, .int .u64 y, .int .u64 z]) (.int .i64 1)).run Tryd.prog w = .ok (.int .u64 y) w := fun _ => by kernel_rfl
theorem wix2 (x y z : Int) : ∀ w : World, (Instr.index 80 (.agg #[.int .u64 x, .int .u64 y, .int .u64 z]) (.int .i64 2)).run Tryd.prog w = .ok (.int .u64 z) w := fun _ => by kernel_rfl
/-! ### write -/
structure WrI (w W : World) (p b N : Nat) (M : Nat → Nat → Int) : Prop where
  mem : MemIs W p b N M
  but : But b w W
theorem WrI.turn {w W : World} {p b N : Nat} {M M' : Nat → Nat → Int} (h : WrI w W p b N M) (he : M' = M') : WrI w (W.setRow b (cellsM N M')) p b N M' := ⟨h.mem.set M', h.but.setRow _⟩
/-- The memory behind k stores. -/
def laK (N : Nat) (M : Nat → Nat → Int) (f : Int) (c : Bd) (k : Nat) : Nat → Nat → Int := layF N M f (c.ws.take k)
theorem laK0 (N : Nat) (M : Nat → Nat → Int) (f : Int) (c : Bd) : stW N (laK N M f c 0) f 4 (bz c.inf) = laK N M f c 1 := lay_step (l := c.ws.take 0) (by show 0 < 32; omega) (bz c.inf)
theorem laK1 (N : Nat) (M : Nat → Nat → Int) (f : Int) (c : Bd) : stW N (laK N M f c 1) f 5 c.lf = laK N M f c 2 := lay_step (l := c.ws.take 1) (by show 1 < 32; omega) c.lf
theorem laK2 (N : Nat) (M : Nat → Nat → Int) (f : Int) (c : Bd) : stW N (laK N M f c 2) f 6 c.pr = laK N M f c 3 := lay_step (l := c.ws.take 2) (by show 2 < 32; omega) c.pr
set_option maxRecDepth 100000 in
set_option maxHeartbeats 2000000 in
theorem write_any (p b N : Nat) (f : Int) (c : Bd) (M : Nat → Nat → Int) (w : World) (hM : Mx w p b N M) (hc : Bo c) (hf : okF N f = true) :
    Calls Tryd.prog 31 #[.pointer (some ⟨p, 0, none⟩), .int .i64 f, .agg #[.bool c.inf, .int .i64 c.lf, .int .i64 c.pr]] w fun e w' => e = .returned (.int .i64 0) ∧ Mx w' p b N (layF N M f c.ws) ∧ But b w w' := by
  have HO : Hid (∀ wc, Calls Tryd.prog 48 #[.agg #[.bool c.inf, .int .i64 c.lf, .int .i64 c.pr]] wc fun e w' => e = .returned (.agg #[.int .u64 (bz c.inf), .int .u64 c.lf, .int .u64 c.pr]) ∧ Below wc.heap.size wc w') := fun wc => words_bo c hc wc
  have hS : ∀ (k : Nat) (v : Int) (M1 : Nat → Nat → Int), k < 3 → ∀ wc, WrI w wc p b N M1 → Calls Tryd.prog 28 #[.pointer (some ⟨p, 0, none⟩), .int .i64 f, .int .i64 ((4 + k : Nat) : Int), .int .u64 v] wc fun e w' => e = .returned (.int .i64 0) ∧ WrI w w' p b N (stW N M1 f ((4 + k : Nat) : Int) v) := fun k v M1 hk wc h => by
    have := store_any p b N f ((4 + k : Nat) : Int) v M1 wc hM.n1 hM.n64 h.mem
    have ho : okW N f ((4 + k : Nat) : Int) = true := by unfold okW; rw [hf]; simp; omega
    rw [show errW N f ((4 + k : Nat) : Int) = 0 by unfold errW; rw [ho]; rfl] at this
    exact this.mono fun e w' ⟨h1, h2⟩ => ⟨h1, by rw [h2]; exact h.turn rfl⟩
  have HS0 : Hid (∀ wc, WrI w wc p b N (laK N M f c 0) → Calls Tryd.prog 28 #[.pointer (some ⟨p, 0, none⟩), .int .i64 f, .int .i64 4, .int .u64 (bz c.inf)] wc fun e w' => e = .returned (.int .i64 0) ∧ WrI w w' p b N (laK N M f c 1)) := fun wc h => by
    have := hS 0 (bz c.inf) _ (by omega) wc h
    rwa [show ((4 + 0 : Nat) : Int) = 4 from rfl, laK0] at this
  have i0 := wix0 (bz c.inf) c.lf c.pr
  have HS1 : Hid (∀ wc, WrI w wc p b N (laK N M f c 1) → Calls Tryd.prog 28 #[.pointer (some ⟨p, 0, none⟩), .int .i64 f, .int .i64 5, .int .u64 c.lf] wc fun e w' => e = .returned (.int .i64 0) ∧ WrI w w' p b N (laK N M f c 2)) := fun wc h => by
    have := hS 1 c.lf _ (by omega) wc h
    rwa [show ((4 + 1 : Nat) : Int) = 5 from rfl, laK1] at this
  have i1 := wix1 (bz c.inf) c.lf c.pr
  have HS2 : Hid (∀ wc, WrI w wc p b N (laK N M f c 2) → Calls Tryd.prog 28 #[.pointer (some ⟨p, 0, none⟩), .int .i64 f, .int .i64 6, .int .u64 c.pr] wc fun e w' => e = .returned (.int .i64 0) ∧ WrI w w' p b N (laK N M f c 3)) := fun wc h => by
    have := hS 2 c.pr _ (by omega) wc h
    rwa [show ((4 + 2 : Nat) : Int) = 6 from rfl, laK2] at this
  have i2 := wix2 (bz c.inf) c.lf c.pr
  have Hw : Hid (WrI w (w.alloc (.cells #[.bool c.inf, .int .i64 c.lf, .int .i64 c.pr] 33)) p b N (laK N M f c 0)) := by
    have e : laK N M f c 0 = M := lay_nil N M f
    rw [e]
    exact ⟨hM.mem.grown (bal (Below.refl _ _) _), But.of_below b (bal (Below.refl _ _) _)⟩
  have HE : Hid (∀ W, WrI w W p b N (laK N M f c 3) → Mx W p b N (layF N M f c.ws) ∧ But b w W) := fun W h => ⟨hM.but h.mem (fit_lay hM.fit N f hc.fit) h.but, h.but⟩
  clear hS hM hf hc
  generalize layF N M f c.ws = M5 at HE ⊢
  generalize laK N M f c = K at *
  generalize bz c.inf = I at *
  go_enter Tryd.func31, Tryd.ntmps31
  go_wp2_with (first
    | (go_at_call 48; refine (HO.out _).mono ?_; rintro e1 w1 ⟨rfl, hb⟩; have H1 : Hid (WrI w w1 p b N (K 0)) := ⟨Hw.out.mem.grown hb, Hw.out.but.trans (But.of_below b hb)⟩; clear hb HO Hw)
    | fail)
  go_loopw [12] (fun i wr => ∃ k : Nat, k ≤ 3 ∧ i = .int .i64 k ∧ WrI w wr p b N (K k)) (fun i _ => 3 - (intOf i).toNat)
  case atStart => exact ⟨0, by omega, rfl, H1.out⟩
  case round =>
    obtain ⟨k, hk, rfl, hI⟩ := hrel
    have HI := rhide hI
    clear hI H1
    rcases (show k = 0 ∨ k = 1 ∨ k = 2 ∨ k = 3 by omega) with rfl | rfl | rfl | rfl
    · go_wp2_with (first
        | (go_at_call 28; refine (HS0.out _ HI.out).mono ?_; rintro e2 w2 ⟨rfl, hw⟩; have H2 := rhide hw; clear hw)
        | fail)
      go_roundw
      case rel => exact ⟨0 + 1, by omega, rfl, H2.out⟩
      case measure => simp [intOf]
    · go_wp2_with (first
        | (go_at_call 28; refine (HS1.out _ HI.out).mono ?_; rintro e2 w2 ⟨rfl, hw⟩; have H2 := rhide hw; clear hw)
        | fail)
      go_roundw
      case rel => exact ⟨1 + 1, by omega, rfl, H2.out⟩
      case measure => simp [intOf]
    · go_wp2_with (first
        | (go_at_call 28; refine (HS2.out _ HI.out).mono ?_; rintro e2 w2 ⟨rfl, hw⟩; have H2 := rhide hw; clear hw)
        | fail)
      go_roundw
      case rel => exact ⟨2 + 1, by omega, rfl, H2.out⟩
      case measure => simp [intOf]
    · go_wp2
      go_ret
      exact ⟨rfl, (HE.out _ HI.out).1, (HE.out _ HI.out).2⟩
end Go.Proofs.YtlnckhebikiclaaDoor.Ptcap
