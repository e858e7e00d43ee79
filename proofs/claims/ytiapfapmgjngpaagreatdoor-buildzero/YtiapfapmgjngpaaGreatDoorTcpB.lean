/- A memory with the table of head; what isBudget, read and write of package tcap answer and do, for all arguments (written by mk_rw.py). -/
import Derived.Test.YtiapfapmgjngpaaGreatDoorTcpA
import Derived.Test.YtiapfapmgjngpaaGreatDoorBunHead
namespace Go.Proofs.YtiapfapmgjngpaaGreatDoor.Ptcap
open Go.Proofs.YtiapfapmgjngpaaGreatDoor.Pbase Go.Proofs.YtiapfapmgjngpaaGreatDoor.Pfield Go.Proofs.YtiapfapmgjngpaaGreatDoor.Play Go.Proofs.YtiapfapmgjngpaaGreatDoor.Pmem
open Go.RowKit M
set_option linter.unusedVariables false

/-- A memory and the table. -/
structure Mx (w : World) (p b N : Nat) (M : Nat → Nat → Int) : Prop where
  mem : MemIs w p b N M
  tb : Phead.TabW w
  fit : Fit M
  n1 : 1 ≤ N
  n64 : N ≤ 64
theorem Mx.on {w w' : World} {p b N : Nat} {M : Nat → Nat → Int} (h : Mx w p b N M) (hB : Below w.heap.size w w') : Mx w' p b N M :=
  ⟨h.mem.grown hB, h.tb.on hB, h.fit, h.n1, h.n64⟩
theorem Mx.but {w w' : World} {p b N : Nat} {M M' : Nat → Nat → Int} (h : Mx w p b N M) (hM : MemIs w' p b N M') (hF : Fit M') (hB : But b w w') : Mx w' p b N M' :=
  ⟨hM, h.tb.but hB (Phead.tab_ne h.mem h.tb), hF, h.n1, h.n64⟩
/-! ### isBudget -/
/-! ### read -/
/-- The words that were read, k of them. -/
def rdL (x y z : Int) : Nat → List Value
  | 0 => [.int .u64 0, .int .u64 0, .int .u64 0]
  | 1 => [.int .u64 x, .int .u64 0, .int .u64 0]
  | 2 => [.int .u64 x, .int .u64 y, .int .u64 0]
  | _ => [.int .u64 x, .int .u64 y, .int .u64 z]
structure RdI (w W : World) (p b N : Nat) (M : Nat → Nat → Int) (x y z : Int) (k : Nat) : Prop where
  res : RowV W w.heap.size (rdL x y z 0)
  all : RowV W (w.heap.size + 1) (rdL x y z k)
  mem : MemIs W p b N M
  below : Below w.heap.size w W
theorem rd_new {w : World} {p b N : Nat} {M : Nat → Nat → Int} (x y z : Int) (h : MemIs w p b N M) : RdI w ((w.alloc (.cells #[.int .u64 0, .int .u64 0, .int .u64 0] 363)).alloc (.cells #[.int .u64 0, .int .u64 0, .int .u64 0] 363)) p b N M x y z 0 := by
  have b0 := rowV_new w (rdL x y z 0) 363
  have b1 := rowV_new (w.alloc (.cells #[.int .u64 0, .int .u64 0, .int .u64 0] 363)) (rdL x y z 0) 363
  simp only [World.size_alloc] at b1
  exact ⟨b0.on (bal (Below.refl _ _) _), b1, h.grown (bal (bal (Below.refl _ _) _) _), bal (bal (Below.refl _ _) _) _⟩
theorem RdI.step {w W : World} {p b N : Nat} {M : Nat → Nat → Int} {x y z : Int} {k j : Nat} (h : RdI w W p b N M x y z k) (hp : p < w.heap.size) (hb : b < w.heap.size) (i : Nat) (v : Value) (hv : (rdL x y z k).set i v = rdL x y z j) : RdI w (W.setCell ⟨w.heap.size + 1, i, none⟩ v) p b N M x y z j :=
  ⟨h.res.other (by omega) _ _, by rw [← hv]; exact h.all.set i v, h.mem.on (heap_setCell_other _ _ _ _ (by show p ≠ w.heap.size + 1; omega)) (heap_setCell_other _ _ _ _ (by show b ≠ w.heap.size + 1; omega)), bst h.below (by omega) _ _⟩
theorem wix0 (x y z : Int) : ∀ w : World, (Instr.index 363 (.agg #[.int .u64 x, .int .u64 y, .int .u64 z]) (.int .i64 0)).run Tryz.prog w = .ok (.int .u64 x) w := fun _ => by kernel_rfl
theorem wix1 (x y z : Int) : ∀ w : World, (Instr.index 363 (.agg #[.int .u64 x, .int .u64 y, .int .u64 z]) (.int .i64 1)).run Tryz.prog w = .ok (.int .u64 y) w := fun _ => by kernel_rfl
theorem wix2 (x y z : Int) : ∀ w : World, (Instr.index 363 (.agg #[.int .u64 x, .int .u64 y, .int .u64 z]) (.int .i64 2)).run Tryz.prog w = .ok (.int .u64 z) w := fun _ => by kernel_rfl
/-! ### write -/
structure WrI (w W : World) (p b N : Nat) (M : Nat → Nat → Int) : Prop where
  mem : MemIs W p b N M
  but : But b w W
theorem WrI.turn {w W : World} {p b N : Nat} {M M' : Nat → Nat → Int} (h : WrI w W p b N M) (he : M' = M') : WrI w (W.setRow b (cellsM N M')) p b N M' := ⟨h.mem.set M', h.but.setRow _⟩
/-- The memory behind k stores. -/
def laK (N : Nat) (M : Nat → Nat → Int) (f : Int) (c : Bd) (k : Nat) : Nat → Nat → Int := layF N M f (c.ws.take k)
theorem laK0 (N : Nat) (M : Nat → Nat → Int) (f : Int) (c : Bd) : stW N (laK N M f c 0) f 4 (bz c.inf) = laK N M f c 1 := lay_step (l := c.ws.take 0) (by show 0 < 32; omega) (bz c.inf)
theorem laK1 (N : Nat) (M : Nat → Nat → Int) (f : Int) (c : Bd) : stW N (laK N M f c 1) f 5 c.lf = laK N M f c 2 := lay_step (l := c.ws.take 1) (by show 1 < 32; omega) c.lf
theorem laK2 (N : Nat) (M : Nat → Nat → Int) (f : Int) (c : Bd) : stW N (laK N M f c 2) f 6 c.pr = laK N M f c 3 := lay_step (l := c.ws.take 2) (by show 2 < 32; omega) c.pr
set_option maxRecDepth 100000 in
set_option maxHeartbeats 2000000 in
theorem write_any (p b N : Nat) (f : Int) (c : Bd) (M : Nat → Nat → Int) (w : World) (hM : Mx w p b N M) (hc : Bo c) (hf : okF N f = true) :
    Calls Tryz.prog 172 #[.pointer (some ⟨p, 0, none⟩), .int .i64 f, .agg #[.bool c.inf, .int .i64 c.lf, .int .i64 c.pr]] w fun e w' => e = .returned (.int .i64 0) ∧ Mx w' p b N (layF N M f c.ws) ∧ But b w w' := by
  have HO : Hid (∀ wc, Calls Tryz.prog 247 #[.agg #[.bool c.inf, .int .i64 c.lf, .int .i64 c.pr]] wc fun e w' => e = .returned (.agg #[.int .u64 (bz c.inf), .int .u64 c.lf, .int .u64 c.pr]) ∧ Below wc.heap.size wc w') := fun wc => words_bo c hc wc
  have hS : ∀ (k : Nat) (v : Int) (M1 : Nat → Nat → Int), k < 3 → ∀ wc, WrI w wc p b N M1 → Calls Tryz.prog 245 #[.pointer (some ⟨p, 0, none⟩), .int .i64 f, .int .i64 ((4 + k : Nat) : Int), .int .u64 v] wc fun e w' => e = .returned (.int .i64 0) ∧ WrI w w' p b N (stW N M1 f ((4 + k : Nat) : Int) v) := fun k v M1 hk wc h => by
    have := store_any p b N f ((4 + k : Nat) : Int) v M1 wc hM.n1 hM.n64 h.mem
    have ho : okW N f ((4 + k : Nat) : Int) = true := by unfold okW; rw [hf]; simp; omega
    rw [show errW N f ((4 + k : Nat) : Int) = 0 by unfold errW; rw [ho]; rfl] at this
    exact this.mono fun e w' ⟨h1, h2⟩ => ⟨h1, by rw [h2]; exact h.turn rfl⟩
  have HS0 : Hid (∀ wc, WrI w wc p b N (laK N M f c 0) → Calls Tryz.prog 245 #[.pointer (some ⟨p, 0, none⟩), .int .i64 f, .int .i64 4, .int .u64 (bz c.inf)] wc fun e w' => e = .returned (.int .i64 0) ∧ WrI w w' p b N (laK N M f c 1)) := fun wc h => by
    have := hS 0 (bz c.inf) _ (by omega) wc h
    rwa [show ((4 + 0 : Nat) : Int) = 4 from rfl, laK0] at this
  have i0 := wix0 (bz c.inf) c.lf c.pr
  have HS1 : Hid (∀ wc, WrI w wc p b N (laK N M f c 1) → Calls Tryz.prog 245 #[.pointer (some ⟨p, 0, none⟩), .int .i64 f, .int .i64 5, .int .u64 c.lf] wc fun e w' => e = .returned (.int .i64 0) ∧ WrI w w' p b N (laK N M f c 2)) := fun wc h => by
    have := hS 1 c.lf _ (by omega) wc h
    rwa [show ((4 + 1 : Nat) : Int) = 5 from rfl, laK1] at this
  have i1 := wix1 (bz c.inf) c.lf c.pr
  have HS2 : Hid (∀ wc, WrI w wc p b N (laK N M f c 2) → Calls Tryz.prog 245 #[.pointer (some ⟨p, 0, none⟩), .int .i64 f, .int .i64 6, .int .u64 c.pr] wc fun e w' => e = .returned (.int .i64 0) ∧ WrI w w' p b N (laK N M f c 3)) := fun wc h => by
    have := hS 2 c.pr _ (by omega) wc h
    rwa [show ((4 + 2 : Nat) : Int) = 6 from rfl, laK2] at this
  have i2 := wix2 (bz c.inf) c.lf c.pr
  have Hw : Hid (WrI w (w.alloc (.cells #[.bool c.inf, .int .i64 c.lf, .int .i64 c.pr] 140)) p b N (laK N M f c 0)) := by
    have e : laK N M f c 0 = M := lay_nil N M f
    rw [e]
    exact ⟨hM.mem.grown (bal (Below.refl _ _) _), But.of_below b (bal (Below.refl _ _) _)⟩
  have HE : Hid (∀ W, WrI w W p b N (laK N M f c 3) → Mx W p b N (layF N M f c.ws) ∧ But b w W) := fun W h => ⟨hM.but h.mem (fit_lay hM.fit N f hc.fit) h.but, h.but⟩
  clear hS hM hf hc
  generalize layF N M f c.ws = M5 at HE ⊢
  generalize laK N M f c = K at *
  generalize bz c.inf = I at *
  go_enter Tryz.func172, Tryz.ntmps172
  go_wp2_with (first
    | (go_at_call 247; refine (HO.out _).mono ?_; rintro e1 w1 ⟨rfl, hb⟩; have H1 : Hid (WrI w w1 p b N (K 0)) := ⟨Hw.out.mem.grown hb, Hw.out.but.trans (But.of_below b hb)⟩; clear hb HO Hw)
    | fail)
  go_loopw [12] (fun i wr => ∃ k : Nat, k ≤ 3 ∧ i = .int .i64 k ∧ WrI w wr p b N (K k)) (fun i _ => 3 - (intOf i).toNat)
  case atStart => exact ⟨0, by omega, rfl, H1.out⟩
  case round =>
    obtain ⟨k, hk, rfl, hI⟩ := hrel
    have HI := rhide hI
    clear hI H1
    rcases (show k = 0 ∨ k = 1 ∨ k = 2 ∨ k = 3 by omega) with rfl | rfl | rfl | rfl
    · go_wp2_with (first
        | (go_at_call 245; refine (HS0.out _ HI.out).mono ?_; rintro e2 w2 ⟨rfl, hw⟩; have H2 := rhide hw; clear hw)
        | fail)
      go_roundw
      case rel => exact ⟨0 + 1, by omega, rfl, H2.out⟩
      case measure => simp [intOf]
    · go_wp2_with (first
        | (go_at_call 245; refine (HS1.out _ HI.out).mono ?_; rintro e2 w2 ⟨rfl, hw⟩; have H2 := rhide hw; clear hw)
        | fail)
      go_roundw
      case rel => exact ⟨1 + 1, by omega, rfl, H2.out⟩
      case measure => simp [intOf]
    · go_wp2_with (first
        | (go_at_call 245; refine (HS2.out _ HI.out).mono ?_; rintro e2 w2 ⟨rfl, hw⟩; have H2 := rhide hw; clear hw)
        | fail)
      go_roundw
      case rel => exact ⟨2 + 1, by omega, rfl, H2.out⟩
      case measure => simp [intOf]
    · go_wp2
      go_ret
      exact ⟨rfl, (HE.out _ HI.out).1, (HE.out _ HI.out).2⟩
end Go.Proofs.YtiapfapmgjngpaaGreatDoor.Ptcap
