import Derived.Test.YtkkclcihjojphaaGreatDoorPkM
set_option linter.unusedVariables false
set_option linter.unusedSimpArgs false
set_option maxRecDepth 100000
set_option maxHeartbeats 20000000
namespace Go.Proofs.YtkkclcihjojphaaGreatDoor
namespace Pbpag
open Pbase Pchold Pfind Play Pmem Pmst Ppmach Ptint Go.RowKit
def cpN (x : Pcomp.Cp) : Nat -> Int
 | 0 => x.tb
 | 1 => x.pg
 | 2 => x.l
 | 3 => x.e
 | 4 => x.fa
 | _ => x.wh
def coR (s : St) (f : Int) : Nat -> Int
 | 0 => Pcomp.gtE s.N s.M f
 | _ => unI (Plive.vaA 64 s.L (cpN (Pcomp.gtC s.N s.M f) 2) (cpN (Pcomp.gtC s.N s.M f) 3)) 7
def fcE (s : St) (f : Int) : Int := fstN (coR s f) 2
def fcC (s : St) (f : Int) : Pcomp.Cp := if fcE s f = 0 then Pcomp.gtC s.N s.M f else Pcomp.cp0
def capO (c : Nat -> Int) : Array Value := #[.int .i64 (c 0), .int .i64 (c 1), .int .i64 (c 2), .int .i64 (c 3), .int .i64 (c 4), .int .i64 (c 5)]
structure Ck (w0 w wx : World) (p : Nat) (o : Nat -> Nat) (P : Pq) (s : St) (A : Nat) (f : Int) (c : Nat -> Int) : Prop where
 fx : Fx w0 wx p o P s
 b0 : wx.cell? ⟨A, 0, none⟩ = some (.pointer (some ⟨p, 0, none⟩))
 b1 : wx.cell? ⟨A + 1, 0, none⟩ = some (.int .i64 f)
 b5 : wx.heap[A + 2]? = some (.cells (capO fun _ => 0) 156 (0, 0))
 b6 : wx.heap[A + 3]? = some (.cells (capO c) 156 (0, 0))
 below : Below w.heap.size w wx
 ge : w.heap.size <= A
 lo : w0.heap.size <= A
 nm : ¬ PMine o (A + 3)
section
variable {w0 w wx w' : World} {p : Nat} {o : Nat -> Nat} {P : Pq} {s : St} {A : Nat} {f : Int} {c c' : Nat -> Int}
theorem Ck.on (h : Ck w0 w wx p o P s A f c) (hB : Below wx.heap.size wx w') : Ck w0 w w' p o P s A f c :=
 ⟨h.fx.on hB, fkeep hB h.b0, fkeep hB h.b1, (hB.block _ (Array.getElem?_eq_some_iff.1 h.b5).1).trans h.b5, (hB.block _ (Array.getElem?_eq_some_iff.1 h.b6).1).trans h.b6, h.below.trans (hB.mono h.below.size), h.ge, h.lo, h.nm⟩
theorem Ck.cell (h : Ck w0 w wx p o P s A f c) : wx.cell? ⟨A + 3, 0, none⟩ = some (.int .i64 (c 0)) /\ wx.cell? ⟨A + 3, 1, none⟩ = some (.int .i64 (c 1)) /\ wx.cell? ⟨A + 3, 2, none⟩ = some (.int .i64 (c 2)) /\ wx.cell? ⟨A + 3, 3, none⟩ = some (.int .i64 (c 3)) /\ wx.cell? ⟨A + 3, 4, none⟩ = some (.int .i64 (c 4)) /\ wx.cell? ⟨A + 3, 5, none⟩ = some (.int .i64 (c 5)) := by
 refine ⟨?_, ?_, ?_, ?_, ?_, ?_⟩ <;> rw [cell_of_row wx _ _ _ _ _ h.b6] <;> rfl
theorem fx_skip (h : Fx w0 wx p o P s) {B j : Nat} (hB : ¬ PMine o B) (hl : w0.heap.size <= B) (v : Value) : Fx w0 (wx.setCell ⟨B, j, none⟩ v) p o P s :=
 ⟨⟨h.x.v.keep h.ws.c4 (Nat.le_of_eq (World.size_setCell _ _ _).symm) fun i h1 h2 _ => heap_setCell_other _ _ _ _ fun e => hB (by rw [<- (show i = B from e)]; exact ⟨h1, h2⟩),
   ⟨h.x.k.os, h.x.k.tape, h.x.k.output, by rw [World.size_setCell]; exact h.x.k.size, fun i hi hn => (heap_setCell_other _ _ _ _ (fun e => by have : i = B := e; omega)).trans (h.x.k.block i hi hn)⟩⟩, h.ws, h.old, h.tb, h.fit⟩
def six (w : World) (B : Nat) (d : Nat -> Int) : World := (((((w.setCell ⟨B, 0, none⟩ (.int .i64 (d 0))).setCell ⟨B, 1, none⟩ (.int .i64 (d 1))).setCell ⟨B, 2, none⟩ (.int .i64 (d 2))).setCell ⟨B, 3, none⟩ (.int .i64 (d 3))).setCell ⟨B, 4, none⟩ (.int .i64 (d 4))).setCell ⟨B, 5, none⟩ (.int .i64 (d 5))
theorem six_other (w : World) {B i : Nat} (d : Nat -> Int) (h : i ≠ B) : (six w B d).heap[i]? = w.heap[i]? := by
 unfold six
 rw [heap_setCell_other _ _ _ _ h, heap_setCell_other _ _ _ _ h, heap_setCell_other _ _ _ _ h, heap_setCell_other _ _ _ _ h, heap_setCell_other _ _ _ _ h, heap_setCell_other _ _ _ _ h]
theorem six_same {w : World} {B : Nat} {c : Nat -> Int} {t : TypeId} (d : Nat -> Int) (h : w.heap[B]? = some (.cells (capO c) t (0, 0))) : (six w B d).heap[B]? = some (.cells (capO d) t (0, 0)) := by
 unfold six
 have e0 := heap_setCell_same w B 0 _ _ (.int .i64 (d 0)) h
 have e1 := heap_setCell_same _ B 1 _ _ (.int .i64 (d 1)) e0
 have e2 := heap_setCell_same _ B 2 _ _ (.int .i64 (d 2)) e1
 have e3 := heap_setCell_same _ B 3 _ _ (.int .i64 (d 3)) e2
 have e4 := heap_setCell_same _ B 4 _ _ (.int .i64 (d 4)) e3
 have e5 := heap_setCell_same _ B 5 _ _ (.int .i64 (d 5)) e4
 rw [e5]
 rfl
theorem but_own' {b j : Nat} {x w : World} (h : But b x w) (v : Value) : But b x (w.setCell ⟨b, j, none⟩ v) :=
 ⟨h.os, h.tape, h.output, by rw [World.size_setCell]; exact h.size, fun i hi hn => (heap_setCell_other _ _ _ _ hn).trans (h.block i hi hn)⟩
theorem but_six {b : Nat} {x : World} (h : But b x w) (d : Nat -> Int) : But b x (six w b d) := by
 unfold six
 exact but_own' (but_own' (but_own' (but_own' (but_own' (but_own' h _) _) _) _) _) _
theorem Ck.put (h : Ck w0 w wx p o P s A f c) (d : Nat -> Int) : Ck w0 w (six wx (A + 3) d) p o P s A f d := by
 have hl := h.lo
 have hg := h.ge
 have hb : ∀ i j, i ≠ A + 3 -> (six wx (A + 3) d).cell? ⟨i, j, none⟩ = wx.cell? ⟨i, j, none⟩ := fun i j e => World.cell?_of_block (w := wx) (six_other wx d e)
 refine ⟨?_, (hb _ _ (by omega)).trans h.b0, (hb _ _ (by omega)).trans h.b1, (six_other wx d (by omega)).trans h.b5, six_same d h.b6, ?_, hg, hl, h.nm⟩
 · unfold six
   exact fx_skip (fx_skip (fx_skip (fx_skip (fx_skip (fx_skip h.fx h.nm (by omega) _) h.nm (by omega) _) h.nm (by omega) _) h.nm (by omega) _) h.nm (by omega) _) h.nm (by omega) _
 · unfold six
   have hq : w.heap.size <= A + 3 := by omega
   exact (((((h.below.setCell (p := ⟨A + 3, 0, none⟩) hq _).setCell (p := ⟨A + 3, 1, none⟩) hq _).setCell (p := ⟨A + 3, 2, none⟩) hq _).setCell (p := ⟨A + 3, 3, none⟩) hq _).setCell (p := ⟨A + 3, 4, none⟩) hq _).setCell (p := ⟨A + 3, 5, none⟩) hq _
theorem com2_any (h : Ck w0 w wx p o P s A f c) : Calls Tryz.prog 197 #[.pointer (some ⟨A, 0, none⟩), .pointer (some ⟨A + 3, 0, none⟩)] wx fun e w' => e = .returned (.int .i64 (unI (Plive.vaA 64 s.L (c 2) (c 3)) 7)) /\ Below wx.heap.size wx w' := by
 obtain ⟨c0, c1, c2, c3, c4, c5⟩ := h.cell
 have d0 := h.b0
 have HV : Hid (∀ wy, Below wx.heap.size wx wy -> Calls Tryz.prog 198 #[.pointer (some ⟨p, 0, none⟩), .int .i64 (c 2), .int .i64 (c 3)] wy fun e w' => e = .returned (.bool (Plive.vaA 64 s.L (c 2) (c 3))) /\ Below wx.heap.size wx w') := fun wy hB => (lives_any (c 2) (c 3) (h.fx.on hB)).mono (by rintro e w' ⟨h1, h2⟩; exact ⟨h1, hB.trans (h2.mono hB.size)⟩)
 have HC : Hid (∀ wy, Below wx.heap.size wx wy -> wy.cell? ⟨A, 0, none⟩ = some (.pointer (some ⟨p, 0, none⟩)) /\ wy.cell? ⟨A + 3, 2, none⟩ = some (.int .i64 (c 2)) /\ wy.cell? ⟨A + 3, 3, none⟩ = some (.int .i64 (c 3))) := fun wy hB => ⟨fkeep hB d0, fkeep hB c2, fkeep hB c3⟩
 have HB0 : Hid (Below wx.heap.size wx wx.drew) := (Below.refl _ _).drew
 clear h
 generalize Plive.vaA 64 s.L (c 2) (c 3) = V at HV ⊢
 generalize c 2 = x2 at c2 HV HC
 generalize c 3 = x3 at c3 HV HC
 go_enter Tryz.func197, Tryz.ntmps197
 go_wp2_with (first
  | (go_at_call 198; refine (HV.out _ (Below.refl _ _)).mono ?_; rintro e1 w2 ⟨rfl, hb⟩; have H2 := ghide hb; clear hb)
  | (go_at_call 173; refine (unless_any _ 7 _).mono ?_; rintro e1 w3 ⟨rfl, hw⟩; subst w3)
  | fail)
 go_ret
 exact ⟨rfl, H2.out⟩
theorem com1_any (h : Ck w0 w wx p o P s A f fun _ => 0) (hT : Tz w0) : Calls Tryz.prog 195 #[.pointer (some ⟨A, 0, none⟩), .pointer (some ⟨A + 1, 0, none⟩), .pointer (some ⟨A + 3, 0, none⟩)] wx fun e w' => e = .returned (.int .i64 (Pcomp.gtE s.N s.M f)) /\ Ck w0 w w' p o P s A f (cpN (Pcomp.gtC s.N s.M f)) /\ But (A + 3) wx w' := by
 have HM : Hid (∀ wy, Below wx.heap.size wx wy -> Calls Tryz.prog 14 #[.pointer (some ⟨p, 0, none⟩)] wy fun e w' => e = .returned (.pointer (some ⟨P.pm, 0, none⟩)) /\ Below wx.heap.size wx w') := fun wy hB => (pmem_any (h.fx.on hB).x.v h.fx.ws).mono (by rintro e w' ⟨h1, h2⟩; exact ⟨h1, hB.trans (h2.mono hB.size)⟩)
 have HL : Hid (∀ wy, Below wx.heap.size wx wy -> Calls Tryz.prog 196 #[.pointer (some ⟨P.pm, 0, none⟩), .int .i64 f] wy fun e w' => e = .returned (.tuple #[.agg #[.int .i64 (cpN (Pcomp.gtC s.N s.M f) 0), .int .i64 (cpN (Pcomp.gtC s.N s.M f) 1), .int .i64 (cpN (Pcomp.gtC s.N s.M f) 2), .int .i64 (cpN (Pcomp.gtC s.N s.M f) 3), .int .i64 (cpN (Pcomp.gtC s.N s.M f) 4), .int .i64 (cpN (Pcomp.gtC s.N s.M f) 5)], .int .i64 (Pcomp.gtE s.N s.M f)]) /\ Below wx.heap.size wx w') := fun wy hB => (Pcomp.get_any _ _ _ f _ wy (fx_mxC (h.fx.on hB) hT)).mono (by rintro e w' ⟨h1, h2⟩; exact ⟨h1, hB.trans (h2.mono hB.size)⟩)
 have HC : Hid (∀ wy, Below wx.heap.size wx wy -> wy.cell? ⟨A, 0, none⟩ = some (.pointer (some ⟨p, 0, none⟩)) /\ wy.cell? ⟨A + 1, 0, none⟩ = some (.int .i64 f)) := fun wy hB => ⟨fkeep hB h.b0, fkeep hB h.b1⟩
 have HK : Hid (∀ wy, Below wx.heap.size wx wy -> (∀ j, j < 6 -> wy.cell? ⟨A + 3, j, none⟩ = some (.int .i64 0)) /\ ∀ j, wy.frozen? ⟨A + 3, j, none⟩ = false) := fun wy hB => by
  have := (hB.block _ (Array.getElem?_eq_some_iff.1 h.b6).1).trans h.b6
  refine ⟨fun j hj => ?_, fun j => frozen_of_row _ _ _ _ _ this⟩
  rw [cell_of_row _ _ _ _ _ _ this]
  rcases (show j = 0 \/ j = 1 \/ j = 2 \/ j = 3 \/ j = 4 \/ j = 5 by omega) with rfl | rfl | rfl | rfl | rfl | rfl <;> rfl
 have HH := ghide h
 have HB0 : Hid (Below wx.heap.size wx wx.drew) := (Below.refl _ _).drew
 have kS0 := HC.out _ HB0.out
 have n0 : A + 3 ≠ A := by omega
 have n1 : A + 3 ≠ A + 1 := by omega
 clear h
 generalize Pcomp.gtE s.N s.M f = E at HL ⊢
 generalize hcc : cpN (Pcomp.gtC s.N s.M f) = c at HL ⊢
 clear hcc
 go_enter Tryz.func195, Tryz.ntmps195
 go_upto_region 1 with fail
 go_region_held3 (fun W => W.cell? ⟨A, 0, none⟩ = some (.pointer (some ⟨p, 0, none⟩)) /\ W.cell? ⟨A + 1, 0, none⟩ = some (.int .i64 f)) (first | with_reducible assumption | with_reducible exact kS0 | with_reducible exact kS1 | with_reducible exact kS2 | go_keep)
  (first
    | (go_at_call 14; refine (HM.out _ HB0.out).mono ?_; rintro e1 w1 ⟨rfl, hb⟩; have HB1 := ghide hb; have kS1 := HC.out _ hb; clear hb HM)
    | (go_at_call 196; refine (HL.out _ HB1.out).mono ?_; rintro e1 w2 ⟨rfl, hb⟩; have HB2 := ghide hb; have kS2 := HC.out _ hb; obtain ⟨k6, kz⟩ := HK.out _ hb; have k60 := k6 0 (by omega); have k61 := k6 1 (by omega); have k62 := k6 2 (by omega); have k63 := k6 3 (by omega); have k64 := k6 4 (by omega); have k65 := k6 5 (by omega); clear k6 hb HL)
    | fail)
 all_goals
  have H3 := ghide ((HH.out.on HB2.out).put c)
  have H4 := ghide (but_six (But.of_below (A + 3) HB2.out) c)
  unfold six at H3 H4
  go_wp2
  go_ret
  exact ⟨rfl, H3.out, H4.out⟩
theorem com_ask (h : Ck w0 w wx p o P s A f fun _ => 0) (hT : Tz w0) {R0 : Nat} {tF : TypeId} (hR : wx.heap[R0]? = some (.cells #[.func (.func 195) #[] #[.pointer (some ⟨A, 0, none⟩), .pointer (some ⟨A + 1, 0, none⟩), .pointer (some ⟨A + 3, 0, none⟩)], .func (.func 197) #[] #[.pointer (some ⟨A, 0, none⟩), .pointer (some ⟨A + 3, 0, none⟩)]] tF (0, 0))) (hn : R0 ≠ A + 3) :
 Calls Tryz.prog 171 #[.pointer (some ⟨p, 0, none⟩), .slice (some ⟨R0, 0, none⟩) 2 2] wx fun e w' => e = .returned (.int .i64 (fcE s f)) /\ Ck w0 w w' p o P s A f (cpN (Pcomp.gtC s.N s.M f)) := by
 have hlt := (Array.getElem?_eq_some_iff.1 hR).1
 have keep : ∀ {wy w' : World}, R0 < wy.heap.size -> wy.heap[R0]? = wx.heap[R0]? -> Below wy.heap.size wy w' -> w'.heap[R0]? = wx.heap[R0]? := fun h1 h2 h3 => (h3.block R0 h1).trans h2
 refine (askComp_any (N := s.n) (coR s f) (fun j wy => Ck w0 w wy p o P s A f (if j = 0 then fun _ => 0 else cpN (Pcomp.gtC s.N s.M f)) /\ wy.heap[R0]? = wx.heap[R0]? /\ R0 < wy.heap.size) A (A + 1) (A + 3) A (A + 3) h.fx.ws.c1 ⟨h, rfl, hlt⟩ (fun wy hy => pcores_any hy.1.fx.x.v hy.1.fx.ws) (fun j wy hy => ?_) (fun wy hy => ?_) (fun wy hy => ?_)).mono ?_
 · have := hy.2.1.trans hR
   refine ⟨?_, ?_⟩ <;> rw [cell_of_row _ _ _ _ _ _ this] <;> rfl
 · refine (com1_any hy.1 hT).mono ?_
   rintro e w' ⟨h1, h2, h3⟩
   exact ⟨h1, h2, (h3.block R0 hy.2.2 hn).trans hy.2.1, Nat.lt_of_lt_of_le hy.2.2 h3.size⟩
 · refine (com2_any hy.1).mono ?_
   rintro e w' ⟨h1, h2⟩
   exact ⟨h1, hy.1.on h2, keep hy.2.2 hy.2.1 h2, Nat.lt_of_lt_of_le hy.2.2 h2.size⟩
 · rintro e w' ⟨h1, j, h2, h3, h4, h5, _⟩
   have hj : j ≠ 0 := by
    rintro rfl
    rcases h4 with h4 | h4
    · omega
    · exact h4 rfl
   rw [if_neg hj] at h5
   exact ⟨h1, h5⟩
def bx4 (w : World) (p : Nat) (f : Int) : World := (((w.alloc (.cells #[.pointer (some ⟨p, 0, none⟩)] 35)).alloc (.cells #[.int .i64 f] 3)).alloc (.cells #[.int .i64 0, .int .i64 0, .int .i64 0, .int .i64 0, .int .i64 0, .int .i64 0] 156)).alloc (.cells #[.int .i64 0, .int .i64 0, .int .i64 0, .int .i64 0, .int .i64 0, .int .i64 0] 156)
theorem bx4_size (w : World) (p : Nat) (f : Int) : (bx4 w p f).heap.size = w.heap.size + 4 := by
 unfold bx4
 simp
theorem bx4_at (h : Fx w0 w p o P s) : Ck w0 w (bx4 w p f) p o P s w.heap.size f fun _ => 0 := by
 have b : ∀ (x : World) (ob : Obj), Below x.heap.size x (x.alloc ob) := fun x ob => bal (Below.refl _ _) ob
 have hB : Below w.heap.size w (bx4 w p f) := bal (bal (bal (bal (Below.refl _ _) _) _) _) _
 have n : ∀ (x : World) (ob : Obj) (i : Nat), x.heap.size = i -> (x.alloc ob).heap[i]? = some ob := fun x ob i e => by subst e; exact heap_alloc_new x ob
 have l : ∀ (x : World) (ob ob2 : Obj) (i : Nat), i < x.heap.size -> x.heap[i]? = some ob2 -> (x.alloc ob).heap[i]? = some ob2 := fun x ob ob2 i e h => (Below.heap_alloc _ _ _ e).trans h
 have hs := h.below.size
 refine ⟨h.on hB, ?_, ?_, ?_, ?_, hB, Nat.le_refl _, hs, fx_new h (by omega)⟩
 all_goals unfold bx4
 · rw [cell_of_row _ _ _ _ _ _ (l _ _ _ _ (by simp only [World.size_alloc]; omega) (l _ _ _ _ (by simp only [World.size_alloc]; omega) (l _ _ _ _ (by simp only [World.size_alloc]; omega) (n w _ w.heap.size rfl))))]; rfl
 · rw [cell_of_row _ _ _ _ _ _ (l _ _ _ _ (by simp only [World.size_alloc]; omega) (l _ _ _ _ (by simp only [World.size_alloc]; omega) (n _ _ _ (by simp))))]; rfl
 · exact l _ _ _ _ (by simp only [World.size_alloc]; omega) (n _ _ _ (by simp))
 · exact n _ _ _ (by simp)
theorem capA_cells {W : World} {B : Nat} {d : Nat -> Int} {t : TypeId} (h : W.heap[B]? = some (.cells (capO d) t (0, 0))) : W.cell? ⟨B, 0, none⟩ = some (.int .i64 (d 0)) /\ W.cell? ⟨B, 1, none⟩ = some (.int .i64 (d 1)) /\ W.cell? ⟨B, 2, none⟩ = some (.int .i64 (d 2)) /\ W.cell? ⟨B, 3, none⟩ = some (.int .i64 (d 3)) /\ W.cell? ⟨B, 4, none⟩ = some (.int .i64 (d 4)) /\ W.cell? ⟨B, 5, none⟩ = some (.int .i64 (d 5)) := by
 refine ⟨?_, ?_, ?_, ?_, ?_, ?_⟩ <;> rw [cell_of_row W _ _ _ _ _ h] <;> rfl
theorem capA_frz {W : World} {B : Nat} {d : Nat -> Int} {t : TypeId} (h : W.heap[B]? = some (.cells (capO d) t (0, 0))) (j : Nat) : W.frozen? ⟨B, j, none⟩ = false := frozen_of_row _ _ _ _ _ h
theorem fcomp_any (f : Int) (hT : Tz w0) (h : Fx w0 w p o P s) : Calls Tryz.prog 122 #[.pointer (some ⟨p, 0, none⟩), .int .i64 f] w fun e w' => e = .returned (.tuple #[.agg #[.int .i64 (cpN (fcC s f) 0), .int .i64 (cpN (fcC s f) 1), .int .i64 (cpN (fcC s f) 2), .int .i64 (cpN (fcC s f) 3), .int .i64 (cpN (fcC s f) 4), .int .i64 (cpN (fcC s f) 5)], .int .i64 (fcE s f)]) /\ Below w.heap.size w w' := by
 have HJ := ghide (bx4_at (f := f) h)
 have hs7 := bx4_size w p f
 have HA : Hid (∀ wx, Ck w0 w wx p o P s w.heap.size f (fun _ => 0) -> ∀ R0 tF, wx.heap[R0]? = some (.cells #[.func (.func 195) #[] #[.pointer (some ⟨w.heap.size, 0, none⟩), .pointer (some ⟨w.heap.size + 1, 0, none⟩), .pointer (some ⟨w.heap.size + 3, 0, none⟩)], .func (.func 197) #[] #[.pointer (some ⟨w.heap.size, 0, none⟩), .pointer (some ⟨w.heap.size + 3, 0, none⟩)]] tF (0, 0)) -> R0 ≠ w.heap.size + 3 ->
  Calls Tryz.prog 171 #[.pointer (some ⟨p, 0, none⟩), .slice (some ⟨R0, 0, none⟩) 2 2] wx fun e w' => e = .returned (.int .i64 (fcE s f)) /\ Ck w0 w w' p o P s w.heap.size f (cpN (Pcomp.gtC s.N s.M f))) := fun wx hx R0 tF hR hn => com_ask hx hT hR hn
 have HV : Hid ((fcE s f = 0 -> ∀ j, cpN (fcC s f) j = cpN (Pcomp.gtC s.N s.M f) j) /\ (fcE s f ≠ 0 -> ∀ j, cpN (fcC s f) j = 0)) := by
  unfold fcC
  refine ⟨fun e j => by rw [if_pos e], fun e j => ?_⟩
  rw [if_neg e]
  unfold cpN Pcomp.cp0
  split <;> rfl
 clear h hT
 generalize fcE s f = E at HA HV ⊢
 generalize cpN (fcC s f) = C at HV ⊢
 generalize cpN (Pcomp.gtC s.N s.M f) = L at HA HV
 obtain ⟨W7, hW7⟩ : ∃ x, x = bx4 w p f := ⟨_, rfl⟩
 rw [<- hW7] at HJ hs7
 unfold bx4 at hW7
 have HS := ghide hs7
 clear hs7
 go_enter Tryz.func122, Tryz.ntmps122
 go_upto_region 2 with fail
 rw [<- hW7]
 clear hW7
 simp only [Nat.add_assoc, Nat.reduceAdd]
 generalize w.heap.size = A at HJ HA HS ⊢
 have d0 := HJ.out.b0
 go_upto_region 3 with (first
  | (go_at_call 171; refine (HA.out _ ?hj _ ?tf ?hr ?hn).mono ?_; (case hj => exact HJ.out.on (bal (Below.refl _ _) _)); (case hr => exact heap_alloc_new _ _); (case hn => (rw [HS.out]; omega)); rintro e w2 ⟨rfl, hx⟩; have H2 := ghide hx; clear hx d0 HA HJ)
  | fail)
 obtain ⟨c0, c1, c2, c3, c4, c5⟩ := H2.out.cell
 obtain ⟨d0, d1, d2, d3, d4, d5⟩ := capA_cells H2.out.b5
 have dz := capA_frz H2.out.b5
 by_cases hE : E = 0
 · have HC := HV.out.1 hE
   subst hE
   obtain ⟨x0, x1, x2, x3, x4, x5⟩ := capA_cells (six_same L H2.out.b5)
   have HF : Hid (Below w.heap.size w (six w2 (A + 2) L)) := by
    have := H2.out.ge
    have hq : w.heap.size <= A + 2 := by omega
    unfold six
    exact (((((H2.out.below.setCell (p := ⟨A + 2, 0, none⟩) hq _).setCell (p := ⟨A + 2, 1, none⟩) hq _).setCell (p := ⟨A + 2, 2, none⟩) hq _).setCell (p := ⟨A + 2, 3, none⟩) hq _).setCell (p := ⟨A + 2, 4, none⟩) hq _).setCell (p := ⟨A + 2, 5, none⟩) hq _
   unfold six at x0 x1 x2 x3 x4 x5 HF
   go_wp2
   refine bodyPost_ret (v := .tuple #[.agg #[.int .i64 (L 0), .int .i64 (L 1), .int .i64 (L 2), .int .i64 (L 3), .int .i64 (L 4), .int .i64 (L 5)], .int .i64 0]) (by simp [results, Tryz.results122, go_sem, x0, x1, x2, x3, x4, x5]) rfl ⟨by simp only [HC], HF.out⟩
 · have HC := HV.out.2 hE
   have hE' : (E != 0) = true := by simp [hE]
   obtain ⟨x0, x1, x2, x3, x4, x5⟩ := capA_cells (six_same (fun _ => 0) H2.out.b5)
   have HF : Hid (Below w.heap.size w (six w2 (A + 2) fun _ => 0)) := by
    have := H2.out.ge
    have hq : w.heap.size <= A + 2 := by omega
    unfold six
    exact (((((H2.out.below.setCell (p := ⟨A + 2, 0, none⟩) hq _).setCell (p := ⟨A + 2, 1, none⟩) hq _).setCell (p := ⟨A + 2, 2, none⟩) hq _).setCell (p := ⟨A + 2, 3, none⟩) hq _).setCell (p := ⟨A + 2, 4, none⟩) hq _).setCell (p := ⟨A + 2, 5, none⟩) hq _
   unfold six at x0 x1 x2 x3 x4 x5 HF
   go_wp2
   refine bodyPost_ret (v := .tuple #[.agg #[.int .i64 0, .int .i64 0, .int .i64 0, .int .i64 0, .int .i64 0, .int .i64 0], .int .i64 E]) (by simp [results, Tryz.results122, go_sem, x0, x1, x2, x3, x4, x5]) rfl ⟨by simp only [HC], HF.out⟩
end
end Pbpag
end Go.Proofs.YtkkclcihjojphaaGreatDoor
