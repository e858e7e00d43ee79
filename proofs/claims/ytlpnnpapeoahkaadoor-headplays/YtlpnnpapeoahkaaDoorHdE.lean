/- What read of package head answers: the first four words of a frame, by a method value that a closure binds. -/
import Derived.Test.YtlpnnpapeoahkaaDoorHdD
namespace Go.Proofs.YtlpnnpapeoahkaaDoor
open Go.RowKit M
set_option linter.unusedVariables false

theorem Row4.other {w : World} {B q j : Nat} {a b c d : Int} (h : Row4 w B a b c d) (hn : B ≠ q) (v : Value) : Row4 (w.setCell ⟨q, j, none⟩ v) B a b c d := by
  have hb : ∀ i, (w.setCell ⟨q, j, none⟩ v).cell? ⟨B, i, none⟩ = w.cell? ⟨B, i, none⟩ := fun i => World.cell?_of_block (w := w) (Below.heap_setCell _ _ _ _ hn)
  have hf : ∀ i, (w.setCell ⟨q, j, none⟩ v).frozen? ⟨B, i, none⟩ = w.frozen? ⟨B, i, none⟩ := fun i => World.frozen?_of_block (w := w) (Below.heap_setCell _ _ _ _ hn)
  exact ⟨by simpa using h.lt, (hb _).trans h.c0, (hb _).trans h.c1, (hb _).trans h.c2, (hb _).trans h.c3, fun i => (hf i).trans (h.fz i)⟩
theorem cell_same {w : World} {B j : Nat} {u : Value} (h : w.cell? ⟨B, j, none⟩ = some u) (v : Value) : (w.setCell ⟨B, j, none⟩ v).cell? ⟨B, j, none⟩ = some v := World.cell?_setCell_same w _ _ h
theorem cell_other {w : World} {B i j : Nat} (hn : j ≠ i) (v : Value) : (w.setCell ⟨B, j, none⟩ v).cell? ⟨B, i, none⟩ = w.cell? ⟨B, i, none⟩ := World.cell?_setCell_other w _ _ _ (by intro e; cases e; exact hn rfl)
theorem frozen_set {w : World} {B j i : Nat} {cs : Array Value} {t : TypeId} (h : w.heap[B]? = some (.cells cs t (0, 0))) (v : Value) : (w.setCell ⟨B, j, none⟩ v).frozen? ⟨B, i, none⟩ = false := frozen_of_row _ _ _ _ _ (heap_setCell_same _ _ _ _ _ _ h)
/-- Four words in a block that may be written. -/
structure Own4 (w : World) (B : Nat) (a b c d : Int) : Prop where
  row : w.heap[B]? = some (.cells #[.int .u64 a, .int .u64 b, .int .u64 c, .int .u64 d] 60 (0, 0))
theorem Own4.is {w : World} {B : Nat} {a b c d : Int} (h : Own4 w B a b c d) : Row4 w B a b c d :=
  ⟨(Array.getElem?_eq_some_iff.1 h.row).1, (cell_of_row _ _ _ _ _ _ h.row).trans rfl, (cell_of_row _ _ _ _ _ _ h.row).trans rfl, (cell_of_row _ _ _ _ _ _ h.row).trans rfl, (cell_of_row _ _ _ _ _ _ h.row).trans rfl, fun j => frozen_of_row _ _ _ _ _ h.row⟩
theorem Own4.on {w w' : World} {B : Nat} {a b c d : Int} (h : Own4 w B a b c d) (hB : Below w.heap.size w w') : Own4 w' B a b c d := ⟨(hB.block B h.is.lt).trans h.row⟩
theorem Own4.other {w : World} {B q j : Nat} {a b c d : Int} (h : Own4 w B a b c d) (hn : B ≠ q) (v : Value) : Own4 (w.setCell ⟨q, j, none⟩ v) B a b c d := ⟨(Below.heap_setCell _ _ _ _ hn).trans h.row⟩
theorem own4_new (w : World) (a b c d : Int) : Own4 (w.alloc (.cells #[.int .u64 a, .int .u64 b, .int .u64 c, .int .u64 d] 60)) w.heap.size a b c d := ⟨heap_alloc_new w _⟩
theorem Own4.set0 {w : World} {B : Nat} {a b c d : Int} (h : Own4 w B a b c d) (v : Int) : Own4 (w.setCell ⟨B, 0, none⟩ (.int .u64 v)) B v b c d := ⟨by rw [heap_setCell_same _ _ _ _ _ _ h.row]; rfl⟩
theorem Own4.set1 {w : World} {B : Nat} {a b c d : Int} (h : Own4 w B a b c d) (v : Int) : Own4 (w.setCell ⟨B, 1, none⟩ (.int .u64 v)) B a v c d := ⟨by rw [heap_setCell_same _ _ _ _ _ _ h.row]; rfl⟩
theorem Own4.set2 {w : World} {B : Nat} {a b c d : Int} (h : Own4 w B a b c d) (v : Int) : Own4 (w.setCell ⟨B, 2, none⟩ (.int .u64 v)) B a b v d := ⟨by rw [heap_setCell_same _ _ _ _ _ _ h.row]; rfl⟩
theorem Own4.set3 {w : World} {B : Nat} {a b c d : Int} (h : Own4 w B a b c d) (v : Int) : Own4 (w.setCell ⟨B, 3, none⟩ (.int .u64 v)) B a b c v := ⟨by rw [heap_setCell_same _ _ _ _ _ _ h.row]; rfl⟩
theorem ldM_at {N : Nat} {f : Int} (h : okF N f = true) (M : Nat → Nat → Int) : ldM N M f 0 = M f.toNat 0 ∧ ldM N M f 1 = M f.toNat 1 ∧ ldM N M f 2 = M f.toNat 2 ∧ ldM N M f 3 = M f.toNat 3 := by
  simp [ldM, okW, h]
/-- What holds between two rounds of read. -/
structure RdI (w0 wr : World) (B p b N : Nat) (f : Int) (M : Nat → Nat → Int) (a0 a1 a2 a3 : Int) : Prop where
  mem : MemIs wr p b N M
  box : BoxF wr B f (loadV p)
  below : Below w0.heap.size w0 wr
  res : Own4 wr w0.heap.size 0 0 0 0
  all : Own4 wr (w0.heap.size + 1) a0 a1 a2 a3
theorem rdI_new {w : World} {B p b N : Nat} {f : Int} {M : Nat → Nat → Int} (hM : MemIs w p b N M) (hb : BoxF w B f (loadV p)) :
    RdI w ((w.alloc (.cells #[.int .u64 0, .int .u64 0, .int .u64 0, .int .u64 0] 60)).alloc (.cells #[.int .u64 0, .int .u64 0, .int .u64 0, .int .u64 0] 60)) B p b N f M 0 0 0 0 := by
  have B2 := bal (bal (Below.refl w.heap.size w) (.cells #[.int .u64 0, .int .u64 0, .int .u64 0, .int .u64 0] 60)) (.cells #[.int .u64 0, .int .u64 0, .int .u64 0, .int .u64 0] 60)
  have q := own4_new (w.alloc (.cells #[.int .u64 0, .int .u64 0, .int .u64 0, .int .u64 0] 60)) 0 0 0 0
  rw [World.size_alloc] at q
  exact ⟨hM.grown B2, hb.on B2, B2, (own4_new w 0 0 0 0).on (bal (Below.refl _ _) _), q⟩
theorem RdI.step {w0 wr : World} {B p b N j : Nat} {f : Int} {M : Nat → Nat → Int} {a0 a1 a2 a3 b0 b1 b2 b3 : Int} {v : Value} (h : RdI w0 wr B p b N f M a0 a1 a2 a3) (hM0 : MemIs w0 p b N M) (hb : BoxF w0 B f (loadV p)) (hn : Own4 (wr.setCell ⟨w0.heap.size + 1, j, none⟩ v) (w0.heap.size + 1) b0 b1 b2 b3) : RdI w0 (wr.setCell ⟨w0.heap.size + 1, j, none⟩ v) B p b N f M b0 b1 b2 b3 := by
  have hB := bst h.below (b := w0.heap.size + 1) (by omega) j v
  exact ⟨hM0.grown hB, hb.on hB, hB, h.res.other (by omega) _, hn⟩
set_option maxRecDepth 100000 in
set_option maxHeartbeats 1000000 in
theorem read_bad (B p b N : Nat) (f : Int) (M : Nat → Nat → Int) (w : World) (hN1 : 1 ≤ N) (hN : N ≤ 64) (hM : MemIs w p b N M) (hb : BoxF w B f (loadV p)) (hf : okF N f = false) :
    Calls Tryd.prog 34 #[.func (.func 46) #[] #[.pointer (some ⟨B + 1, 0, none⟩), .pointer (some ⟨B, 0, none⟩)]] w fun e w' => e = .returned (.tuple #[.agg #[.int .u64 0, .int .u64 0, .int .u64 0, .int .u64 0], .int .i64 1]) ∧ Below w.heap.size w w' := by
  have hs : ldM N M f 0 = 0 := by simp [ldM, okW, hf]
  have he : errW N f 0 = 1 := by simp [errW, okW, hf]
  have HN := rdI_new hM hb
  clear hM hb hf
  go_enter Tryd.func34, Tryd.ntmps34
  go_wp2
  generalize (w.alloc _).alloc _ = wa at HN ⊢
  have HH : Hid (RdI w wa B p b N f M 0 0 0 0) := HN
  clear HN
  go_loopw [8] (fun i wr => i = .int .i64 0 ∧ wr = wa) (fun _ _ => 0)
  case atStart => exact ⟨rfl, rfl⟩
  case round =>
    obtain ⟨rfl, rfl⟩ := hrel
    have y0 := HH.out.res.is.c0
    have y1 := HH.out.res.is.c1
    have y2 := HH.out.res.is.c2
    have y3 := HH.out.res.is.c3
    have z0 := HH.out.res.is.fz 0
    have z1 := HH.out.res.is.fz 1
    have z2 := HH.out.res.is.fz 2
    have z3 := HH.out.res.is.fz 3
    go_wp2_with (first
      | (go_at_call 46; refine (out1_any B p b N f 0 M _ hN1 hN HH.out.mem HH.out.box).mono ?_; rintro e w' ⟨rfl, rfl⟩; rw [hs, he])
      | fail)
    refine bodyPost_ret (v := .tuple #[.agg #[.int .u64 0, .int .u64 0, .int .u64 0, .int .u64 0], .int .i64 1]) (by simp [results, Tryd.results34, go_sem, y0, y1, y2, y3]) rfl ⟨rfl, ?_⟩
    exact bst (bst (bst (bst HH.out.below (by omega) _ _) (by omega) _ _) (by omega) _ _) (by omega) _ _
/-- The words read behind n rounds. -/
def rdN (x0 x1 x2 x3 : Int) : Nat → Int × Int × Int × Int
  | 0 => (0, 0, 0, 0)
  | 1 => (x0, 0, 0, 0)
  | 2 => (x0, x1, 0, 0)
  | 3 => (x0, x1, x2, 0)
  | _ => (x0, x1, x2, x3)
set_option maxRecDepth 100000 in
set_option maxHeartbeats 1000000 in
theorem read_ok (B p b N : Nat) (f : Int) (M : Nat → Nat → Int) (w : World) (hN1 : 1 ≤ N) (hN : N ≤ 64) (hM : MemIs w p b N M) (hb : BoxF w B f (loadV p)) (hf : okF N f = true) :
    Calls Tryd.prog 34 #[.func (.func 46) #[] #[.pointer (some ⟨B + 1, 0, none⟩), .pointer (some ⟨B, 0, none⟩)]] w fun e w' => e = .returned (.tuple #[.agg #[.int .u64 (M f.toNat 0), .int .u64 (M f.toNat 1), .int .u64 (M f.toNat 2), .int .u64 (M f.toNat 3)], .int .i64 0]) ∧ Below w.heap.size w w' := by
  have e0 : errW N f 0 = 0 := by simp [errW, okW, hf]
  have e1 : errW N f 1 = 0 := by simp [errW, okW, hf]
  have e2 : errW N f 2 = 0 := by simp [errW, okW, hf]
  have e3 : errW N f 3 = 0 := by simp [errW, okW, hf]
  obtain ⟨l0, l1, l2, l3⟩ := ldM_at hf M
  generalize M f.toNat 0 = x0 at l0 ⊢
  generalize M f.toNat 1 = x1 at l1 ⊢
  generalize M f.toNat 2 = x2 at l2 ⊢
  generalize M f.toNat 3 = x3 at l3 ⊢
  have HN := rdI_new hM hb
  have HM : Hid (MemIs w p b N M) := hM
  have HB : Hid (BoxF w B f (loadV p)) := hb
  clear hM hb hf
  go_enter Tryd.func34, Tryd.ntmps34
  go_wp2
  generalize (w.alloc _).alloc _ = wa at HN ⊢
  have HH : Hid (RdI w wa B p b N f M 0 0 0 0) := HN
  clear HN
  go_loopw [8] (fun i wr => ∃ n : Nat, n ≤ 4 ∧ i = .int .i64 n ∧ RdI w wr B p b N f M (rdN x0 x1 x2 x3 n).1 (rdN x0 x1 x2 x3 n).2.1 (rdN x0 x1 x2 x3 n).2.2.1 (rdN x0 x1 x2 x3 n).2.2.2) (fun i _ => 4 - (intOf i).toNat)
  case atStart => exact ⟨0, by omega, rfl, HH.out⟩
  case round =>
    obtain ⟨n, hn, rfl, hI⟩ := hrel
    clear HH
    rcases (show n = 0 ∨ n = 1 ∨ n = 2 ∨ n = 3 ∨ n = 4 by omega) with rfl | rfl | rfl | rfl | rfl
    · have HI : Hid (RdI w wr B p b N f M 0 0 0 0) := hI
      clear hI
      have y := HI.out.all.is.c0
      have z := HI.out.all.is.fz 0
      have HJ : Hid (RdI w (wr.setCell ⟨w.heap.size + 1, 0, none⟩ (.int .u64 x0)) B p b N f M x0 0 0 0) := HI.out.step HM.out HB.out (HI.out.all.set0 x0)
      go_wp2_with (first
        | (go_at_call 46; refine (out1_any B p b N f 0 M _ hN1 hN HI.out.mem HI.out.box).mono ?_; rintro e w' ⟨rfl, hw⟩; subst hw; rw [l0, e0])
        | fail)
      go_roundw
      case rel => exact ⟨1, by omega, rfl, HJ.out⟩
      case measure => simp [intOf]
    · have HI : Hid (RdI w wr B p b N f M x0 0 0 0) := hI
      clear hI
      have y := HI.out.all.is.c1
      have z := HI.out.all.is.fz 1
      have HJ : Hid (RdI w (wr.setCell ⟨w.heap.size + 1, 1, none⟩ (.int .u64 x1)) B p b N f M x0 x1 0 0) := HI.out.step HM.out HB.out (HI.out.all.set1 x1)
      go_wp2_with (first
        | (go_at_call 46; refine (out1_any B p b N f 1 M _ hN1 hN HI.out.mem HI.out.box).mono ?_; rintro e w' ⟨rfl, hw⟩; subst hw; rw [l1, e1])
        | fail)
      go_roundw
      case rel => exact ⟨2, by omega, rfl, HJ.out⟩
      case measure => simp [intOf]
    · have HI : Hid (RdI w wr B p b N f M x0 x1 0 0) := hI
      clear hI
      have y := HI.out.all.is.c2
      have z := HI.out.all.is.fz 2
      have HJ : Hid (RdI w (wr.setCell ⟨w.heap.size + 1, 2, none⟩ (.int .u64 x2)) B p b N f M x0 x1 x2 0) := HI.out.step HM.out HB.out (HI.out.all.set2 x2)
      go_wp2_with (first
        | (go_at_call 46; refine (out1_any B p b N f 2 M _ hN1 hN HI.out.mem HI.out.box).mono ?_; rintro e w' ⟨rfl, hw⟩; subst hw; rw [l2, e2])
        | fail)
      go_roundw
      case rel => exact ⟨3, by omega, rfl, HJ.out⟩
      case measure => simp [intOf]
    · have HI : Hid (RdI w wr B p b N f M x0 x1 x2 0) := hI
      clear hI
      have y := HI.out.all.is.c3
      have z := HI.out.all.is.fz 3
      have HJ : Hid (RdI w (wr.setCell ⟨w.heap.size + 1, 3, none⟩ (.int .u64 x3)) B p b N f M x0 x1 x2 x3) := HI.out.step HM.out HB.out (HI.out.all.set3 x3)
      go_wp2_with (first
        | (go_at_call 46; refine (out1_any B p b N f 3 M _ hN1 hN HI.out.mem HI.out.box).mono ?_; rintro e w' ⟨rfl, hw⟩; subst hw; rw [l3, e3])
        | fail)
      go_roundw
      case rel => exact ⟨4, by omega, rfl, HJ.out⟩
      case measure => simp [intOf]
    · have HI : Hid (RdI w wr B p b N f M x0 x1 x2 x3) := hI
      clear hI
      have y0 := HI.out.res.is.c0
      have y1 := HI.out.res.is.c1
      have y2 := HI.out.res.is.c2
      have y3 := HI.out.res.is.c3
      have z0 := HI.out.res.is.fz 0
      have z1 := HI.out.res.is.fz 1
      have z2 := HI.out.res.is.fz 2
      have z3 := HI.out.res.is.fz 3
      have u0 := HI.out.all.is.c0
      have u1 := HI.out.all.is.c1
      have u2 := HI.out.all.is.c2
      have u3 := HI.out.all.is.c3
      go_wp2
      refine bodyPost_ret (v := .tuple #[.agg #[.int .u64 x0, .int .u64 x1, .int .u64 x2, .int .u64 x3], .int .i64 0]) (by simp [results, Tryd.results34, go_sem, y0, y1, y2, y3]) rfl ⟨rfl, ?_⟩
      exact bst (bst (bst (bst HI.out.below (by omega) _ _) (by omega) _ _) (by omega) _ _) (by omega) _ _
/-- The words that read answers. -/
def rdM (N : Nat) (M : Nat → Nat → Int) (f : Int) (j : Nat) : Int := if okF N f = true then M f.toNat j else 0
theorem read_any (B p b N : Nat) (f : Int) (M : Nat → Nat → Int) (w : World) (hN1 : 1 ≤ N) (hN : N ≤ 64) (hM : MemIs w p b N M) (hb : BoxF w B f (loadV p)) :
    Calls Tryd.prog 34 #[.func (.func 46) #[] #[.pointer (some ⟨B + 1, 0, none⟩), .pointer (some ⟨B, 0, none⟩)]] w fun e w' => e = .returned (.tuple #[.agg #[.int .u64 (rdM N M f 0), .int .u64 (rdM N M f 1), .int .u64 (rdM N M f 2), .int .u64 (rdM N M f 3)], .int .i64 (errF N f)]) ∧ Below w.heap.size w w' := by
  cases hf : okF N f
  · simp only [rdM, errF, hf, Bool.false_eq_true, if_false]
    exact read_bad B p b N f M w hN1 hN hM hb hf
  · simp only [rdM, errF, hf, if_true]
    exact read_ok B p b N f M w hN1 hN hM hb hf
end Go.Proofs.YtlpnnpapeoahkaaDoor
