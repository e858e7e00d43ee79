import Derived.Test.YtkkclcihjojphaaGreatDoorPkM
set_option linter.unusedVariables false
set_option linter.unusedSimpArgs false
set_option maxRecDepth 100000
set_option maxHeartbeats 20000000
namespace Go.Proofs.YtkkclcihjojphaaGreatDoor
namespace Pbpag
open Pbase Pchold Pfind Play Pmem Pmst Ppmach Ptint Go.RowKit Go.Shelf
def Bx (o : Nat -> Nat) (w : World) (A : Nat) (v : Value) : Prop := ¬ PMine o A /\ ∃ t, RowB w A t #[v]
section
variable {w0 w w' w1 w2 : World} {p : Nat} {o : Nat -> Nat} {P : Pq} {s s' : St} {A : Nat} {v : Value}
theorem Bx.lv (h : Bx o w A v) (g : Lv w0 w w1 p o P s) : Bx o w1 A v := ⟨h.1, h.2.elim fun t ht => ⟨t, g.row ht h.1⟩⟩
theorem Bx.on (h : Bx o w A v) (hB : Below w.heap.size w w1) : Bx o w1 A v := ⟨h.1, h.2.elim fun t ht => ⟨t, RowB.on ht hB⟩⟩
theorem Bx.cell (h : Bx o w A v) : w.cell? ⟨A, 0, none⟩ = some v := h.2.elim fun t ht => RowB.cell ht 0 rfl
theorem bx_new (h : Fx w0 w p o P s) (v : Value) (t : TypeId) : Bx o (w.alloc (.cells #[v] t)) w.heap.size v := ⟨fx_new h (Nat.le_refl _), t, heap_alloc_new w _⟩
theorem lv_alloc (h : Lv w0 w w1 p o P s) (b : Obj) : Lv w0 w (w1.alloc b) p o P s := h.on (bal (Below.refl _ _) b)
theorem lv_drew (h : Lv w0 w w1 p o P s) : Lv w0 w w1.drew p o P s := h.on (Below.refl _ _).drew
theorem lv_skip (h : Lv w0 w w1 p o P s) (hf : Fx w0 w p o P s) {B : Nat} (hB : w.heap.size <= B) (v : Value) : Lv w0 w (w1.setCell ⟨B, 0, none⟩ v) p o P s :=
 ⟨⟨⟨h.fx.x.v.keep h.fx.ws.c4 (Nat.le_of_eq (World.size_setCell _ _ _).symm) fun i h1 h2 _ => heap_setCell_other _ _ _ _ fun e => fx_new hf hB (by rw [<- (show i = B from e)]; exact ⟨h1, h2⟩),
   ⟨h.fx.x.k.os, h.fx.x.k.tape, h.fx.x.k.output, by rw [World.size_setCell]; exact h.fx.x.k.size, fun i hi hn => (heap_setCell_other _ _ _ _ (fun e => by have : i = B := e; have := hf.below.size; omega)).trans (h.fx.x.k.block i hi hn)⟩⟩, h.fx.ws, h.fx.old, h.fx.tb, h.fx.fit⟩,
  ⟨h.k.os, h.k.tape, h.k.output, by rw [World.size_setCell]; exact h.k.size, fun i hi hn => (heap_setCell_other _ _ _ _ (fun e => by have : i = B := e; omega)).trans (h.k.block i hi hn)⟩⟩
theorem gx_load (f a : Int) (h : Fx w0 w p o P s) : Calls Tryz.prog 55 #[.pointer (some ⟨P.pm, 0, none⟩), .int .i64 f, .int .i64 a] w fun e w' => e = .returned (.tuple #[.int .u64 (ldM s.N s.M f a), .int .i64 (errW s.N f a)]) /\ Lv w0 w w' p o P s := (load_any _ _ _ f a _ w h.ws.n1 h.ws.n64 h.x.v.mem).mono (by rintro e w' ⟨h1, rfl⟩; exact ⟨h1, lv_refl h⟩)
theorem box3 (h : Fx w0 w p o P s) (v0 v1 v2 : Value) (t0 t1 t2 : TypeId) : Lv w0 w (((w.alloc (.cells #[v0] t0)).alloc (.cells #[v1] t1)).alloc (.cells #[v2] t2)) p o P s /\ Bx o (((w.alloc (.cells #[v0] t0)).alloc (.cells #[v1] t1)).alloc (.cells #[v2] t2)) w.heap.size v0 /\ Bx o (((w.alloc (.cells #[v0] t0)).alloc (.cells #[v1] t1)).alloc (.cells #[v2] t2)) (w.heap.size + 1) v1 /\ Bx o (((w.alloc (.cells #[v0] t0)).alloc (.cells #[v1] t1)).alloc (.cells #[v2] t2)) (w.heap.size + 1 + 1) v2 := by
 have l1 := lv_alloc (lv_refl h) (.cells #[v0] t0)
 have l2 := lv_alloc l1 (.cells #[v1] t1)
 have b2 := bx_new l1.fx v1 t1
 have b3 := bx_new l2.fx v2 t2
 rw [World.size_alloc] at b2 b3
 rw [World.size_alloc] at b3
 exact ⟨lv_alloc l2 _, (bx_new h v0 t0).on (bal (bal (Below.refl _ _) _) _), b2.on (bal (Below.refl _ _) _), b3⟩
theorem keep_ok (f a : Int) (h : Fx w0 w p o P s) : Calls Tryz.prog 27 #[.pointer (some ⟨p, 0, none⟩), .int .i64 f, .int .i64 a] w fun e w' => ∃ A B C D, e = .returned (.func (.func 56) #[] #[.pointer (some ⟨A, 0, none⟩), .pointer (some ⟨B, 0, none⟩), .pointer (some ⟨C, 0, none⟩), .pointer (some ⟨D, 0, none⟩)]) /\ Lv w0 w w' p o P s := by
 have HX := ghide (box3 h (.pointer (some ⟨p, 0, none⟩)) (.int .i64 f) (.int .i64 a) 35 3 3)
 have HM : Hid (∀ W wx, Lv w0 W wx p o P s -> Calls Tryz.prog 14 #[.pointer (some ⟨p, 0, none⟩)] wx fun e w' => e = .returned (.pointer (some ⟨P.pm, 0, none⟩)) /\ Lv w0 W w' p o P s /\ Lv w0 wx w' p o P s) := fun W wx hx => (gx_mem hx.fx).mono (by rintro e w' ⟨h1, h2⟩; exact ⟨h1, hx.then h2, h2⟩)
 have HL : Hid (∀ W wx, Lv w0 W wx p o P s -> Calls Tryz.prog 55 #[.pointer (some ⟨P.pm, 0, none⟩), .int .i64 f, .int .i64 a] wx fun e w' => e = .returned (.tuple #[.int .u64 (ldM s.N s.M f a), .int .i64 (errW s.N f a)]) /\ Lv w0 W w' p o P s /\ Lv w0 wx w' p o P s) := fun W wx hx => (gx_load f a hx.fx).mono (by rintro e w' ⟨h1, h2⟩; exact ⟨h1, hx.then h2, h2⟩)
 clear h
 generalize ldM s.N s.M f a = x at HL
 generalize errW s.N f a = y at HL
 go_enter Tryz.func27, Tryz.ntmps27
 go_upto_region 1 with fail
 rename_i K hK
 generalize ((w.alloc _).alloc _).alloc _ = W at HX ⊢
 generalize hA : w.heap.size = A at HX ⊢
 generalize hB : A + 1 = B at HX ⊢
 generalize hC : B + 1 = C at HX ⊢
 have HS : Hid (∀ x, Lv w0 W x p o P s -> x.cell? ⟨A, 0, none⟩ = some (.pointer (some ⟨p, 0, none⟩)) /\ x.cell? ⟨B, 0, none⟩ = some (.int .i64 f) /\ x.cell? ⟨C, 0, none⟩ = some (.int .i64 a)) := fun x hx => ⟨(HX.out.2.1.lv hx).cell, (HX.out.2.2.1.lv hx).cell, (HX.out.2.2.2.lv hx).cell⟩
 have H0 : Hid (Lv w0 W W p o P s) := lv_refl HX.out.1.fx
 obtain ⟨a0, a1, a2⟩ := HS.out _ H0.out
 have ka0 : ∀ o, (W.alloc o).cell? ⟨A, 0, none⟩ = some (.pointer (some ⟨p, 0, none⟩)) := fun o => (HS.out _ (lv_alloc H0.out o)).1
 have ka1 : ∀ o, (W.alloc o).cell? ⟨B, 0, none⟩ = some (.int .i64 f) := fun o => (HS.out _ (lv_alloc H0.out o)).2.1
 have ka2 : ∀ o, (W.alloc o).cell? ⟨C, 0, none⟩ = some (.int .i64 a) := fun o => (HS.out _ (lv_alloc H0.out o)).2.2
 have HK : ∀ (b : Nat) (W' : World), Lv w0 W W' p o P s -> K { tmps := #[.pointer (some ⟨p, 0, none⟩), .int .i64 f, .int .i64 a, .pointer (some ⟨A, 0, none⟩), .pointer (some ⟨B, 0, none⟩), .pointer (some ⟨C, 0, none⟩), .nilFunc, .pointer (some ⟨b, 0, none⟩), .int .i64 y, .tuple #[.int .u64 x, .int .i64 y], .pointer (some ⟨p, 0, none⟩), .pointer (some ⟨P.pm, 0, none⟩), .int .i64 f, .int .i64 a, .tuple #[.int .u64 x, .int .i64 y], .int .u64 x, .int .i64 y, undef], defers := [] } W' := by
  intro b W' hW
  have HW := ghide (HX.out.1.then hW)
  clear hW HX HS H0 a0 a1 a2 ka0 ka1 ka2 HM HL
  refine hK _ _ ?_
  go_wp2_with fail
  go_ret
  exact ⟨_, _, _, _, rfl, HW.out⟩
 have hWn : ¬ PMine o W.heap.size := fx_new H0.out.fx (Nat.le_refl _)
 go_region_with (first
  | (go_at_call 14; refine (HM.out W _ ?hm).mono ?_; (case hm => (repeat (first | exact H0.out | refine lv_alloc ?_ _ | refine lv_drew ?_))); rintro e w1 ⟨rfl, hl, hk⟩; have H1 := ghide hl; have hWn1 := fx_new hl.fx (Nat.le_refl _); (try have r1 := hk.row (A := W.heap.size) (heap_alloc_new W _) hWn); (try have x1 := RowB.cell r1 0 rfl); (try have z1 := frozen_of_row _ _ 0 _ _ r1); clear hl hk; obtain ⟨b0, b1, b2⟩ := HS.out _ H1.out; have kb1 : ∀ o, (w1.alloc o).cell? ⟨B, 0, none⟩ = some (.int .i64 f) := (fun o => (HS.out _ (lv_alloc H1.out o)).2.1); have kb2 : ∀ o, (w1.alloc o).cell? ⟨C, 0, none⟩ = some (.int .i64 a) := (fun o => (HS.out _ (lv_alloc H1.out o)).2.2))
  | (go_at_call 55; refine (HL.out W _ ?hm).mono ?_; (case hm => (repeat (first | exact H1.out | refine lv_alloc ?_ _ | refine lv_drew ?_))); rintro e w2 ⟨rfl, hl, hk⟩; have H2 := ghide hl; (try have r2 := hk.row (A := W.heap.size) r1 hWn); (try have r2 := hk.row (A := w1.heap.size) (heap_alloc_new w1 _) hWn1); (try have x2 := RowB.cell r2 0 rfl); (try have z2 := frozen_of_row _ _ 0 _ _ r2); clear hl hk)
  | fail)
 all_goals (refine HK _ _ ?_; first | with_reducible exact lv_alloc H2.out _ | with_reducible exact lv_skip H2.out H0.out.fx (Nat.le_refl _) _ | with_reducible exact lv_skip H2.out H0.out.fx H1.out.k.size _)
end
end Pbpag
end Go.Proofs.YtkkclcihjojphaaGreatDoor
