/- What into and write of package head answer and do: a head's words stored into a frame, by a method value that a closure binds. -/
import Derived.Test.YtlpnnpapeoahkaaDoorHdB
namespace Go.Proofs.YtlpnnpapeoahkaaDoor
open Go.RowKit M
set_option linter.unusedVariables false

/-- Nothing that was there changes but block b. -/
structure But (b : Nat) (w w' : World) : Prop where
  os : w'.os = w.os
  tape : w'.tape = w.tape
  output : w'.output = w.output
  size : w.heap.size ≤ w'.heap.size
  block : ∀ i, i < w.heap.size → i ≠ b → w'.heap[i]? = w.heap[i]?
theorem But.refl (b : Nat) (w : World) : But b w w := ⟨rfl, rfl, rfl, Nat.le_refl _, fun _ _ _ => rfl⟩
theorem But.below {b B : Nat} {w w' : World} (h : But b w w') (hB : B ≤ b) (hw : B ≤ w.heap.size) : Below B w w' := ⟨h.os, h.tape, h.output, h.size, fun i hi => h.block i (by omega) (by omega)⟩
theorem But.of_below {w w' : World} (b : Nat) (h : Below w.heap.size w w') : But b w w' := ⟨h.os, h.tape, h.output, h.size, fun i hi _ => h.block i hi⟩
theorem But.trans {b : Nat} {a w w' : World} (h : But b a w) (k : But b w w') : But b a w' :=
  ⟨k.os.trans h.os, k.tape.trans h.tape, k.output.trans h.output, Nat.le_trans h.size k.size, fun i hi hb => (k.block i (Nat.lt_of_lt_of_le hi h.size) hb).trans (h.block i hi hb)⟩
theorem But.setRow {b : Nat} {a w : World} (h : But b a w) (cs : Array Value) : But b a (w.setRow b cs) :=
  h.trans ⟨(below_setRow (Below.refl 0 w) (Nat.zero_le b) cs).os, (below_setRow (Below.refl 0 w) (Nat.zero_le b) cs).tape, (below_setRow (Below.refl 0 w) (Nat.zero_le b) cs).output, (below_setRow (Below.refl 0 w) (Nat.zero_le b) cs).size, fun i _ hb => setRow_other w b i cs hb⟩
theorem But.cell {b : Nat} {w w' : World} (h : But b w w') {q j : Nat} (hq : q < w.heap.size) (hb : q ≠ b) : w'.cell? ⟨q, j, none⟩ = w.cell? ⟨q, j, none⟩ := World.cell?_of_block (w := w) (h.block q hq hb)
theorem But.frozen {b : Nat} {w w' : World} (h : But b w w') {q j : Nat} (hq : q < w.heap.size) (hb : q ≠ b) : w'.frozen? ⟨q, j, none⟩ = w.frozen? ⟨q, j, none⟩ := World.frozen?_of_block (w := w) (h.block q hq hb)

/-! ### into, outOf -/
/-- The two variables that a closure took. -/
structure BoxF (w : World) (B : Nat) (f : Int) (v : Value) : Prop where
  lt : B + 1 < w.heap.size
  c0 : w.cell? ⟨B, 0, none⟩ = some (.int .i64 f)
  c1 : w.cell? ⟨B + 1, 0, none⟩ = some v
theorem BoxF.on {w w' : World} {B : Nat} {f : Int} {v : Value} (h : BoxF w B f v) (hB : Below w.heap.size w w') : BoxF w' B f v := by
  have := h.lt
  exact ⟨Nat.lt_of_lt_of_le h.lt hB.size, (hB.cell (p := ⟨B, 0, none⟩) (by show B < _; omega)).trans h.c0, (hB.cell (p := ⟨B + 1, 0, none⟩) h.lt).trans h.c1⟩
theorem BoxF.but {w w' : World} {B b : Nat} {f : Int} {v : Value} (h : BoxF w B f v) (hB : But b w w') (h0 : B ≠ b) (h1 : B + 1 ≠ b) : BoxF w' B f v := by
  have := h.lt
  exact ⟨Nat.lt_of_lt_of_le h.lt hB.size, (hB.cell (by omega) h0).trans h.c0, (hB.cell h.lt h1).trans h.c1⟩
theorem boxF_new (w : World) (f : Int) (v : Value) (ty ty' : TypeId) : BoxF ((w.alloc (.cells #[.int .i64 f] ty)).alloc (.cells #[v] ty')) w.heap.size f v ∧ Below w.heap.size w ((w.alloc (.cells #[.int .i64 f] ty)).alloc (.cells #[v] ty')) := by
  refine ⟨⟨by simp, ?_, ?_⟩, bal (bal (Below.refl _ _) _) _⟩
  · rw [cell_of_row _ _ _ _ _ _ (heap_alloc2_old _ _ _)]; rfl
  · rw [cell_of_row _ _ _ _ _ _ (heap_alloc2_new _ _ _)]; rfl
/-- A memory's way to store, to load a word. -/
def storeV (p : Nat) : Value := .func (.func 22) #[.pointer (some ⟨p, 0, none⟩)] #[]
def loadV (p : Nat) : Value := .func (.func 36) #[.pointer (some ⟨p, 0, none⟩)] #[]
theorem into_any (f : Int) (p : Nat) (w : World) :
    Calls Tryd.prog 26 #[.int .i64 f, .func (.func 22) #[.pointer (some ⟨p, 0, none⟩)] #[]] w fun e w' => e = .returned (.func (.func 44) #[] #[.pointer (some ⟨w.heap.size + 1, 0, none⟩), .pointer (some ⟨w.heap.size, 0, none⟩)]) ∧ BoxF w' w.heap.size f (storeV p) ∧ Below w.heap.size w w' := by
  go_enter Tryd.func26, Tryd.ntmps26
  go_wp2
  go_ret
  exact ⟨rfl, boxF_new w f _ _ _⟩
theorem out_any (f : Int) (p : Nat) (w : World) :
    Calls Tryd.prog 35 #[.int .i64 f, .func (.func 36) #[.pointer (some ⟨p, 0, none⟩)] #[]] w fun e w' => e = .returned (.func (.func 46) #[] #[.pointer (some ⟨w.heap.size + 1, 0, none⟩), .pointer (some ⟨w.heap.size, 0, none⟩)]) ∧ BoxF w' w.heap.size f (loadV p) ∧ Below w.heap.size w w' := by
  go_enter Tryd.func35, Tryd.ntmps35
  go_wp2
  go_ret
  exact ⟨rfl, boxF_new w f _ _ _⟩
theorem into1_any (B p b N : Nat) (f at' x : Int) (M : Nat → Nat → Int) (w : World) (hN1 : 1 ≤ N) (hN : N ≤ 64) (hM : MemIs w p b N M) (hb : BoxF w B f (storeV p)) :
    Calls Tryd.prog 44 #[.int .i64 at', .int .u64 x, .pointer (some ⟨B + 1, 0, none⟩), .pointer (some ⟨B, 0, none⟩)] w fun e w' => e = .returned (.int .i64 (errW N f at')) ∧ w' = w.setRow b (cellsM N (stM N M f at' x)) := by
  have c0 := hb.c0
  have c1 : w.cell? ⟨B + 1, 0, none⟩ = some (.func (.func 22) #[.pointer (some ⟨p, 0, none⟩)] #[]) := hb.c1
  have HM : Hid (MemIs w p b N M) := hM
  clear hM hb
  go_enter Tryd.func44, Tryd.ntmps44
  go_wp2_with (first
    | (go_at_call 22; refine (store_any p b N f at' x M _ hN1 hN HM.out).mono ?_; rintro e w' ⟨rfl, rfl⟩)
    | fail)
  go_ret
  exact ⟨rfl, rfl⟩
theorem out1_any (B p b N : Nat) (f at' : Int) (M : Nat → Nat → Int) (w : World) (hN1 : 1 ≤ N) (hN : N ≤ 64) (hM : MemIs w p b N M) (hb : BoxF w B f (loadV p)) :
    Calls Tryd.prog 46 #[.int .i64 at', .pointer (some ⟨B + 1, 0, none⟩), .pointer (some ⟨B, 0, none⟩)] w fun e w' => e = .returned (.tuple #[.int .u64 (ldM N M f at'), .int .i64 (errW N f at')]) ∧ w' = w := by
  have c0 := hb.c0
  have c1 : w.cell? ⟨B + 1, 0, none⟩ = some (.func (.func 36) #[.pointer (some ⟨p, 0, none⟩)] #[]) := hb.c1
  have HM : Hid (MemIs w p b N M) := hM
  clear hM hb
  go_enter Tryd.func46, Tryd.ntmps46
  go_wp2_with (first
    | (go_at_call 36; refine (load_any p b N f at' M _ hN1 hN HM.out).mono ?_; rintro e w' ⟨rfl, rfl⟩)
    | fail)
  go_ret2
  exact ⟨rfl, rfl⟩

/-! ### write -/
theorem idx4 (x0 x1 x2 x3 : Int) : (∀ w : World, (Instr.index 60 (.agg #[.int .u64 x0, .int .u64 x1, .int .u64 x2, .int .u64 x3]) (.int .i64 0)).run Tryd.prog w = .ok (.int .u64 x0) w) ∧ (∀ w : World, (Instr.index 60 (.agg #[.int .u64 x0, .int .u64 x1, .int .u64 x2, .int .u64 x3]) (.int .i64 1)).run Tryd.prog w = .ok (.int .u64 x1) w) ∧
    (∀ w : World, (Instr.index 60 (.agg #[.int .u64 x0, .int .u64 x1, .int .u64 x2, .int .u64 x3]) (.int .i64 2)).run Tryd.prog w = .ok (.int .u64 x2) w) ∧ (∀ w : World, (Instr.index 60 (.agg #[.int .u64 x0, .int .u64 x1, .int .u64 x2, .int .u64 x3]) (.int .i64 3)).run Tryd.prog w = .ok (.int .u64 x3) w) :=
  ⟨fun _ => by kernel_rfl, fun _ => by kernel_rfl, fun _ => by kernel_rfl, fun _ => by kernel_rfl⟩
theorem st4_bad {N : Nat} {f : Int} (h : okF N f = false) (M : Nat → Nat → Int) (a b c d : Int) : st4 N M f a b c d = M := by
  simp [st4, stM, okW, h]
/-- The memory behind n of four stores. -/
def stN (N : Nat) (M : Nat → Nat → Int) (f a b c d : Int) : Nat → Nat → Nat → Int
  | 0 => M
  | 1 => stM N M f 0 a
  | 2 => stM N (stM N M f 0 a) f 1 b
  | 3 => stM N (stM N (stM N M f 0 a) f 1 b) f 2 c
  | _ => st4 N M f a b c d
theorem write_new {w : World} {B p b N : Nat} {f x0 x1 x2 x3 : Int} {M : Nat → Nat → Int} (hM : MemIs w p b N M) (hb : BoxF w B f (storeV p)) (ty : TypeId) :
    MemIs (w.alloc (.cells #[.int .u64 x0, .int .u64 x1, .int .u64 x2, .int .u64 x3] ty)) p b N M ∧ BoxF (w.alloc (.cells #[.int .u64 x0, .int .u64 x1, .int .u64 x2, .int .u64 x3] ty)) B f (storeV p) ∧ Below w.heap.size w (w.alloc (.cells #[.int .u64 x0, .int .u64 x1, .int .u64 x2, .int .u64 x3] ty)) :=
  ⟨hM.below (bal (Below.refl _ _) _) hM.lt.1 hM.lt.2, hb.on (bal (Below.refl _ _) _), bal (Below.refl _ _) _⟩
set_option maxRecDepth 100000 in
set_option maxHeartbeats 1000000 in
theorem write_bad (B p b N : Nat) (f x0 x1 x2 x3 : Int) (M : Nat → Nat → Int) (w : World) (hN1 : 1 ≤ N) (hN : N ≤ 64) (hM : MemIs w p b N M) (hb : BoxF w B f (storeV p)) (hf : okF N f = false) :
    Calls Tryd.prog 25 #[.agg #[.int .u64 x0, .int .u64 x1, .int .u64 x2, .int .u64 x3], .func (.func 44) #[] #[.pointer (some ⟨B + 1, 0, none⟩), .pointer (some ⟨B, 0, none⟩)]] w fun e w' => e = .returned (.int .i64 1) ∧ Below w.heap.size w w' := by
  have hs : stM N M f 0 x0 = M := by simp [stM, okW, hf]
  have he : errW N f 0 = 1 := by simp [errW, okW, hf]
  have HM := write_new (x0 := x0) (x1 := x1) (x2 := x2) (x3 := x3) hM hb 60
  clear hM hb hf
  obtain ⟨i0, i1, i2, i3⟩ := idx4 x0 x1 x2 x3
  go_enter Tryd.func25, Tryd.ntmps25
  go_wp2
  generalize w.alloc _ = wa at HM ⊢
  have HH : Hid (MemIs wa p b N M ∧ BoxF wa B f (storeV p) ∧ Below w.heap.size w wa) := HM
  clear HM
  go_loopw [9] (fun i wr => i = .int .i64 0 ∧ wr = wa) (fun _ _ => 0)
  case atStart => exact ⟨rfl, rfl⟩
  case round =>
    obtain ⟨rfl, rfl⟩ := hrel
    go_wp2_with (first
      | (go_at_call 44; refine (into1_any B p b N f 0 x0 M _ hN1 hN HH.out.1 HH.out.2.1).mono ?_; rintro e w' ⟨rfl, h'⟩; rw [hs, HH.out.1.self] at h'; subst h'; rw [he])
      | fail)
    go_ret
    exact ⟨rfl, HH.out.2.2⟩
/-- What holds between two rounds of write. -/
structure WrI (w0 wr : World) (B p b N : Nat) (f : Int) (M : Nat → Nat → Int) : Prop where
  mem : MemIs wr p b N M
  box : BoxF wr B f (storeV p)
  but : But b w0 wr
theorem WrI.turn {w0 wr : World} {B p b N : Nat} {f : Int} {M : Nat → Nat → Int} (h : WrI w0 wr B p b N f M) (h0 : B ≠ b) (h1 : B + 1 ≠ b) (M' : Nat → Nat → Int) : WrI w0 (wr.setRow b (cellsM N M')) B p b N f M' :=
  ⟨h.mem.set M', h.box.but ((But.refl b wr).setRow _) h0 h1, h.but.setRow _⟩
set_option maxRecDepth 100000 in
set_option maxHeartbeats 1000000 in
theorem write_ok (B p b N : Nat) (f x0 x1 x2 x3 : Int) (M : Nat → Nat → Int) (w : World) (hN1 : 1 ≤ N) (hN : N ≤ 64) (hM : MemIs w p b N M) (hb : BoxF w B f (storeV p)) (h0 : B ≠ b) (h1 : B + 1 ≠ b) (hf : okF N f = true) :
    Calls Tryd.prog 25 #[.agg #[.int .u64 x0, .int .u64 x1, .int .u64 x2, .int .u64 x3], .func (.func 44) #[] #[.pointer (some ⟨B + 1, 0, none⟩), .pointer (some ⟨B, 0, none⟩)]] w fun e w' => e = .returned (.int .i64 0) ∧ MemIs w' p b N (st4 N M f x0 x1 x2 x3) ∧ But b w w' := by
  have e0 : errW N f 0 = 0 := by simp [errW, okW, hf]
  have e1 : errW N f 1 = 0 := by simp [errW, okW, hf]
  have e2 : errW N f 2 = 0 := by simp [errW, okW, hf]
  have e3 : errW N f 3 = 0 := by simp [errW, okW, hf]
  have HM := write_new (x0 := x0) (x1 := x1) (x2 := x2) (x3 := x3) hM hb 60
  clear hM hb hf
  obtain ⟨i0, i1, i2, i3⟩ := idx4 x0 x1 x2 x3
  go_enter Tryd.func25, Tryd.ntmps25
  go_wp2
  generalize w.alloc _ = wa at HM ⊢
  have HH : Hid (WrI w wa B p b N f M) := ⟨HM.1, HM.2.1, But.of_below b HM.2.2⟩
  clear HM
  go_loopw [9] (fun i wr => ∃ n : Nat, n ≤ 4 ∧ i = .int .i64 n ∧ WrI w wr B p b N f (stN N M f x0 x1 x2 x3 n)) (fun i _ => 4 - (intOf i).toNat)
  case atStart => exact ⟨0, by omega, rfl, HH.out⟩
  case round =>
    obtain ⟨n, hn, rfl, hI⟩ := hrel
    have HI : Hid (WrI w wr B p b N f (stN N M f x0 x1 x2 x3 n)) := hI
    clear hI HH
    rcases (show n = 0 ∨ n = 1 ∨ n = 2 ∨ n = 3 ∨ n = 4 by omega) with rfl | rfl | rfl | rfl | rfl
    · go_wp2_with (first
        | (go_at_call 44; refine (into1_any B p b N f 0 x0 (stN N M f x0 x1 x2 x3 0) _ hN1 hN HI.out.mem HI.out.box).mono ?_; rintro e w' ⟨rfl, h'⟩; rw [e0]; have HJ : Hid (WrI w w' B p b N f (stN N M f x0 x1 x2 x3 1)) := (by rw [h']; exact HI.out.turn h0 h1 _); clear h')
        | fail)
      go_roundw
      case rel => exact ⟨1, by omega, rfl, HJ.out⟩
      case measure => simp [intOf]
    · go_wp2_with (first
        | (go_at_call 44; refine (into1_any B p b N f 1 x1 (stN N M f x0 x1 x2 x3 1) _ hN1 hN HI.out.mem HI.out.box).mono ?_; rintro e w' ⟨rfl, h'⟩; rw [e1]; have HJ : Hid (WrI w w' B p b N f (stN N M f x0 x1 x2 x3 2)) := (by rw [h']; exact HI.out.turn h0 h1 _); clear h')
        | fail)
      go_roundw
      case rel => exact ⟨2, by omega, rfl, HJ.out⟩
      case measure => simp [intOf]
    · go_wp2_with (first
        | (go_at_call 44; refine (into1_any B p b N f 2 x2 (stN N M f x0 x1 x2 x3 2) _ hN1 hN HI.out.mem HI.out.box).mono ?_; rintro e w' ⟨rfl, h'⟩; rw [e2]; have HJ : Hid (WrI w w' B p b N f (stN N M f x0 x1 x2 x3 3)) := (by rw [h']; exact HI.out.turn h0 h1 _); clear h')
        | fail)
      go_roundw
      case rel => exact ⟨3, by omega, rfl, HJ.out⟩
      case measure => simp [intOf]
    · go_wp2_with (first
        | (go_at_call 44; refine (into1_any B p b N f 3 x3 (stN N M f x0 x1 x2 x3 3) _ hN1 hN HI.out.mem HI.out.box).mono ?_; rintro e w' ⟨rfl, h'⟩; rw [e3]; have HJ : Hid (WrI w w' B p b N f (stN N M f x0 x1 x2 x3 4)) := (by rw [h']; exact HI.out.turn h0 h1 _); clear h')
        | fail)
      go_roundw
      case rel => exact ⟨4, by omega, rfl, HJ.out⟩
      case measure => simp [intOf]
    · go_wp2
      go_ret
      exact ⟨rfl, HI.out.mem, HI.out.but⟩
theorem write_any (B p b N : Nat) (f x0 x1 x2 x3 : Int) (M : Nat → Nat → Int) (w : World) (hN1 : 1 ≤ N) (hN : N ≤ 64) (hM : MemIs w p b N M) (hb : BoxF w B f (storeV p)) (h0 : B ≠ b) (h1 : B + 1 ≠ b) :
    Calls Tryd.prog 25 #[.agg #[.int .u64 x0, .int .u64 x1, .int .u64 x2, .int .u64 x3], .func (.func 44) #[] #[.pointer (some ⟨B + 1, 0, none⟩), .pointer (some ⟨B, 0, none⟩)]] w fun e w' => e = .returned (.int .i64 (errF N f)) ∧ MemIs w' p b N (st4 N M f x0 x1 x2 x3) ∧ But b w w' := by
  cases hf : okF N f
  · rw [st4_bad hf, show errF N f = 1 by simp [errF, hf]]
    exact (write_bad B p b N f x0 x1 x2 x3 M w hN1 hN hM hb hf).mono fun e w' ⟨h2, h3⟩ => ⟨h2, hM.below h3 hM.lt.1 hM.lt.2, But.of_below b h3⟩
  · rw [show errF N f = 0 by simp [errF, hf]]
    exact write_ok B p b N f x0 x1 x2 x3 M w hN1 hN hM hb h0 h1 hf
end Go.Proofs.YtlpnnpapeoahkaaDoor
