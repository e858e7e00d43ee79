import Derived.Test.YtkkclcihjojphaaGreatDoorPkL
import Derived.Test.YtkkclcihjojphaaGreatDoorPkI
import Derived.Test.YtkkclcihjojphaaGreatDoorPkK
import Derived.Test.YtkkclcihjojphaaGreatDoorPkH
import Derived.Test.YtkkclcihjojphaaGreatDoorPkG
import Derived.Test.YtkkclcihjojphaaGreatDoorBunXpgtbl
set_option linter.unusedVariables false
set_option linter.unusedSimpArgs false
set_option maxRecDepth 100000
set_option maxHeartbeats 20000000
namespace Go.Proofs.YtkkclcihjojphaaGreatDoor
namespace Pfind
open Pbase Pchold Pmem Pmst Ppmach Ptint Go.RowKit
structure Fx (w0 w : World) (p : Nat) (o : Nat -> Nat) (P : Pq) (s : St) : Prop where
 x : Px w0 w p o P s
 ws : Pmst.Ws s
 old : ∀ i, i < w0.heap.size -> o i = 99
 tb : Phead.TabW w0
 fit : Fit s.M
section
variable {w0 w w' : World} {p : Nat} {o : Nat -> Nat} {P : Pq} {s s' : St}
theorem Fx.on (h : Fx w0 w p o P s) (hB : Below w.heap.size w w') : Fx w0 w' p o P s := ⟨h.x.on h.ws.c4 hB, h.ws, h.old, h.tb, h.fit⟩
theorem Fx.below (h : Fx w0 w p o P s) : Below w0.heap.size w0 w := h.x.k.below (fun i hi ⟨g, g'⟩ => by have := h.old i hi; omega) (Nat.le_refl _)
theorem Fx.hd (h : Fx w0 w p o P s) : Phead.TabW w := h.tb.on h.below
theorem Fx.turn (h : Fx w0 w p o P s) (hx : Px w w' p o P s') (hw : Pmst.Ws s') (hf : Fit s'.M) : Fx w0 w' p o P s' := ⟨⟨hx.v, h.x.k.trans hx.k⟩, hw, h.old, h.tb, hf⟩
theorem Fx.words (h : Fx w0 w p o P s) {M : Nat -> Nat -> Int} (hm : MemIs w' P.pm P.bm s.N M) (hf : Fit M) (hB : But P.bm w w') : Fx w0 w' p o P { s with M := M } :=
 have k := tint_but (o := o) h.x.v.om.2 hB
 h.turn ⟨(h.x.v.left k).turnM hm, pwide 22 (by omega) (by omega) k⟩ ⟨h.ws.n1, h.ws.n64, h.ws.c1, h.ws.c4⟩ hf
theorem fkeep (hB : Below w.heap.size w w') {b j : Nat} {v : Value} (hc : w.cell? ⟨b, j, none⟩ = some v) : w'.cell? ⟨b, j, none⟩ = some v := (hB.cell (p := ⟨b, j, none⟩) (World.block_lt_of_cell? _ ⟨b, j, none⟩ hc)).trans hc
theorem lives_any (id ep : Int) (h : Fx w0 w p o P s) : Calls Tryz.prog 198 #[.pointer (some ⟨p, 0, none⟩), .int .i64 id, .int .i64 ep] w fun e w' => e = .returned (.bool (Plive.vaA 64 s.L id ep)) /\ Below w.heap.size w w' := by
 have HL := fhide (plive_any h.x.v h.ws)
 have HV : Hid (∀ wx, Below w.heap.size w wx -> Calls Tryz.prog 246 #[.pointer (some ⟨P.pl, 0, none⟩), .int .i64 id, .int .i64 ep] wx fun e w' => e = .returned (.bool (Plive.vaA 64 s.L id ep)) /\ Below w.heap.size w w') := fun wx hB => (Plive.valid_any _ _ 64 _ id ep wx (by omega) (by omega) (h.x.v.grown h.ws.c4 hB).live).mono (by rintro e w' ⟨h1, h2⟩; exact ⟨h1, hB.trans (h2.mono hB.size)⟩)
 clear h
 generalize Plive.vaA 64 s.L id ep = V at HV ⊢
 go_enter Tryz.func198, Tryz.ntmps198
 go_wp2_with (first
  | (go_at_call 109; refine HL.out.mono ?_; rintro e1 w1 ⟨rfl, hb⟩; have H1 := fhide hb; clear hb HL)
  | (go_at_call 246; refine (HV.out _ H1.out).mono ?_; rintro e1 w2 ⟨rfl, hb⟩; have H2 := fhide hb; clear hb HV H1)
  | fail)
 go_ret
 exact ⟨rfl, H2.out⟩
def frR (s : St) (f : Int) : Nat -> Int
 | 0 => unI ((Ptyp.toldA s.N s.T f).is == 2) 4
 | 1 => unI ((Ptyp.toldA s.N s.T f).cnt == 0) 10
 | _ => unI (Phead.isE s.N s.M f 0 == 0) 10
def frshE (s : St) (f : Int) : Int := fstN (frR s f) 3
theorem fresh1_any (f : Int) {D E : Nat} (h : Fx w0 w p o P s) (cD : w.cell? ⟨D, 0, none⟩ = some (.pointer (some ⟨p, 0, none⟩))) (cE : w.cell? ⟨E, 0, none⟩ = some (.int .i64 f)) : Calls Tryz.prog 172 #[.pointer (some ⟨D, 0, none⟩), .pointer (some ⟨E, 0, none⟩)] w fun e w' => e = .returned (.int .i64 (frR s f 0)) /\ Below w.heap.size w w' := by
 have HT : Hid (∀ wx, Below w.heap.size w wx -> Calls Tryz.prog 32 #[.pointer (some ⟨p, 0, none⟩)] wx fun e w' => e = .returned (.pointer (some ⟨P.pt, 0, none⟩)) /\ Below w.heap.size w w') := fun wx hB => (ptyp_any (h.on hB).x.v h.ws).mono (by rintro e w' ⟨h1, h2⟩; exact ⟨h1, hB.trans (h2.mono hB.size)⟩)
 have HY : Hid (∀ wx, Below w.heap.size w wx -> Calls Tryz.prog 46 #[.pointer (some ⟨P.pt, 0, none⟩), .int .i64 f] wx fun e w' => e = .returned (.int .i64 (Ptyp.toldA s.N s.T f).is) /\ Below w.heap.size w w') := fun wx hB => (Ptyp.type_any _ _ _ f _ wx h.ws.n1 h.ws.n64 (h.on hB).x.v.typ).mono (by rintro e w' ⟨h1, h2⟩; exact ⟨h1, hB.trans (h2.mono hB.size)⟩)
 have HC : Hid (∀ wx, Below w.heap.size w wx -> wx.cell? ⟨D, 0, none⟩ = some (.pointer (some ⟨p, 0, none⟩)) /\ wx.cell? ⟨E, 0, none⟩ = some (.int .i64 f)) := fun wx hB => ⟨fkeep hB cD, fkeep hB cE⟩
 have HB0 : Hid (Below w.heap.size w w.drew) := (Below.refl _ _).drew
 have kS0 := HC.out _ HB0.out
 unfold frR
 clear h cD cE
 generalize (Ptyp.toldA s.N s.T f).is = V at HY ⊢
 go_enter Tryz.func172, Tryz.ntmps172
 go_upto_region 1 with fail
 go_region_held3 (fun W => W.cell? ⟨D, 0, none⟩ = some (.pointer (some ⟨p, 0, none⟩)) /\ W.cell? ⟨E, 0, none⟩ = some (.int .i64 f)) (first | assumption | exact kS0 | exact kS1 | exact kS2 | go_keep)
  (first
    | (go_at_call 32; refine (HT.out _ HB0.out).mono ?_; rintro e1 w1 ⟨rfl, hb⟩; have HB1 := fhide hb; have kS1 := HC.out _ hb; clear hb HT)
    | (go_at_call 46; refine (HY.out _ HB1.out).mono ?_; rintro e1 w2 ⟨rfl, hb⟩; have HB2 := fhide hb; have kS2 := HC.out _ hb; clear hb HY)
    | (go_at_call 173; refine (unless_any _ 4 _).mono ?_; rintro e1 w3 ⟨rfl, hw⟩; subst w3)
    | fail)
 all_goals
  go_wp2
  go_ret
  exact ⟨rfl, HB2.out⟩
theorem fresh2_any (f : Int) {D E : Nat} (h : Fx w0 w p o P s) (cD : w.cell? ⟨D, 0, none⟩ = some (.pointer (some ⟨p, 0, none⟩))) (cE : w.cell? ⟨E, 0, none⟩ = some (.int .i64 f)) : Calls Tryz.prog 174 #[.pointer (some ⟨D, 0, none⟩), .pointer (some ⟨E, 0, none⟩)] w fun e w' => e = .returned (.int .i64 (frR s f 1)) /\ Below w.heap.size w w' := by
 have HT : Hid (∀ wx, Below w.heap.size w wx -> Calls Tryz.prog 32 #[.pointer (some ⟨p, 0, none⟩)] wx fun e w' => e = .returned (.pointer (some ⟨P.pt, 0, none⟩)) /\ Below w.heap.size w w') := fun wx hB => (ptyp_any (h.on hB).x.v h.ws).mono (by rintro e w' ⟨h1, h2⟩; exact ⟨h1, hB.trans (h2.mono hB.size)⟩)
 have HY : Hid (∀ wx, Below w.heap.size w wx -> Calls Tryz.prog 33 #[.pointer (some ⟨P.pt, 0, none⟩), .int .i64 f] wx fun e w' => e = .returned (.int .i64 (Ptyp.toldA s.N s.T f).cnt) /\ Below w.heap.size w w') := fun wx hB => (Ptyp.count_any _ _ _ f _ wx h.ws.n1 h.ws.n64 (h.on hB).x.v.typ).mono (by rintro e w' ⟨h1, h2⟩; exact ⟨h1, hB.trans (h2.mono hB.size)⟩)
 have HC : Hid (∀ wx, Below w.heap.size w wx -> wx.cell? ⟨D, 0, none⟩ = some (.pointer (some ⟨p, 0, none⟩)) /\ wx.cell? ⟨E, 0, none⟩ = some (.int .i64 f)) := fun wx hB => ⟨fkeep hB cD, fkeep hB cE⟩
 have HB0 : Hid (Below w.heap.size w w.drew) := (Below.refl _ _).drew
 have kS0 := HC.out _ HB0.out
 unfold frR
 clear h cD cE
 generalize (Ptyp.toldA s.N s.T f).cnt = V at HY ⊢
 go_enter Tryz.func174, Tryz.ntmps174
 go_upto_region 1 with fail
 go_region_held3 (fun W => W.cell? ⟨D, 0, none⟩ = some (.pointer (some ⟨p, 0, none⟩)) /\ W.cell? ⟨E, 0, none⟩ = some (.int .i64 f)) (first | assumption | exact kS0 | exact kS1 | exact kS2 | go_keep)
  (first
    | (go_at_call 32; refine (HT.out _ HB0.out).mono ?_; rintro e1 w1 ⟨rfl, hb⟩; have HB1 := fhide hb; have kS1 := HC.out _ hb; clear hb HT)
    | (go_at_call 33; refine (HY.out _ HB1.out).mono ?_; rintro e1 w2 ⟨rfl, hb⟩; have HB2 := fhide hb; have kS2 := HC.out _ hb; clear hb HY)
    | (go_at_call 173; refine (unless_any _ 10 _).mono ?_; rintro e1 w3 ⟨rfl, hw⟩; subst w3)
    | fail)
 all_goals
  go_wp2
  go_ret
  exact ⟨rfl, HB2.out⟩
theorem fresh3_any (f : Int) {D E : Nat} (h : Fx w0 w p o P s) (cD : w.cell? ⟨D, 0, none⟩ = some (.pointer (some ⟨p, 0, none⟩))) (cE : w.cell? ⟨E, 0, none⟩ = some (.int .i64 f)) : Calls Tryz.prog 175 #[.pointer (some ⟨D, 0, none⟩), .pointer (some ⟨E, 0, none⟩)] w fun e w' => e = .returned (.int .i64 (frR s f 2)) /\ Below w.heap.size w w' := by
 have HT : Hid (∀ wx, Below w.heap.size w wx -> Calls Tryz.prog 14 #[.pointer (some ⟨p, 0, none⟩)] wx fun e w' => e = .returned (.pointer (some ⟨P.pm, 0, none⟩)) /\ Below w.heap.size w w') := fun wx hB => (pmem_any (h.on hB).x.v h.ws).mono (by rintro e w' ⟨h1, h2⟩; exact ⟨h1, hB.trans (h2.mono hB.size)⟩)
 have HY : Hid (∀ wx, Below w.heap.size w wx -> Calls Tryz.prog 176 #[.pointer (some ⟨P.pm, 0, none⟩), .int .i64 f, .int .i64 0] wx fun e w' => e = .returned (.int .i64 (Phead.isE s.N s.M f 0)) /\ Below w.heap.size w w') := fun wx hB => (Phead.his_any _ _ _ f 0 _ wx h.ws.n1 h.ws.n64 (h.on hB).x.v.mem (h.on hB).hd h.fit).mono (by rintro e w' ⟨h1, h2⟩; exact ⟨h1, hB.trans (h2.mono hB.size)⟩)
 have HC : Hid (∀ wx, Below w.heap.size w wx -> wx.cell? ⟨D, 0, none⟩ = some (.pointer (some ⟨p, 0, none⟩)) /\ wx.cell? ⟨E, 0, none⟩ = some (.int .i64 f)) := fun wx hB => ⟨fkeep hB cD, fkeep hB cE⟩
 have HB0 : Hid (Below w.heap.size w w.drew) := (Below.refl _ _).drew
 have kS0 := HC.out _ HB0.out
 unfold frR
 clear h cD cE
 generalize (Phead.isE s.N s.M f 0) = V at HY ⊢
 go_enter Tryz.func175, Tryz.ntmps175
 go_upto_region 1 with fail
 go_region_held3 (fun W => W.cell? ⟨D, 0, none⟩ = some (.pointer (some ⟨p, 0, none⟩)) /\ W.cell? ⟨E, 0, none⟩ = some (.int .i64 f)) (first | assumption | exact kS0 | exact kS1 | exact kS2 | go_keep)
  (first
    | (go_at_call 14; refine (HT.out _ HB0.out).mono ?_; rintro e1 w1 ⟨rfl, hb⟩; have HB1 := fhide hb; have kS1 := HC.out _ hb; clear hb HT)
    | (go_at_call 176; refine (HY.out _ HB1.out).mono ?_; rintro e1 w2 ⟨rfl, hb⟩; have HB2 := fhide hb; have kS2 := HC.out _ hb; clear hb HY)
    | (go_at_call 173; refine (unless_any _ 10 _).mono ?_; rintro e1 w3 ⟨rfl, hw⟩; subst w3)
    | fail)
 all_goals
  go_wp2
  go_ret
  exact ⟨rfl, HB2.out⟩
structure Bd2 (w : World) (D E p : Nat) (f : Int) : Prop where
 m : w.cell? ⟨D, 0, none⟩ = some (.pointer (some ⟨p, 0, none⟩))
 f : w.cell? ⟨E, 0, none⟩ = some (.int .i64 f)
theorem Bd2.on {D E : Nat} {f : Int} (h : Bd2 w D E p f) (hB : Below w.heap.size w w') : Bd2 w' D E p f := ⟨fkeep hB h.m, fkeep hB h.f⟩
theorem fresh_any (f : Int) (h : Fx w0 w p o P s) : Calls Tryz.prog 99 #[.pointer (some ⟨p, 0, none⟩), .int .i64 f] w fun e w' => e = .returned (.int .i64 (frshE s f)) /\ Below w.heap.size w w' := by
 have HA : Hid (∀ wx D E R0, Below w.heap.size w wx -> Bd2 wx D E p f -> (wx.cell? ⟨R0, 0, none⟩ = some (.func (.func 172) #[] #[.pointer (some ⟨D, 0, none⟩), .pointer (some ⟨E, 0, none⟩)]) /\ wx.cell? ⟨R0, 1, none⟩ = some (.func (.func 174) #[] #[.pointer (some ⟨D, 0, none⟩), .pointer (some ⟨E, 0, none⟩)]) /\ wx.cell? ⟨R0, 2, none⟩ = some (.func (.func 175) #[] #[.pointer (some ⟨D, 0, none⟩), .pointer (some ⟨E, 0, none⟩)])) ->
  Calls Tryz.prog 171 #[.pointer (some ⟨p, 0, none⟩), .slice (some ⟨R0, 0, none⟩) 3 3] wx fun e w' => e = .returned (.int .i64 (frshE s f)) /\ Below w.heap.size w w') := fun wx D E R0 hB hD hR => by
  have hx := h.on hB
  refine (askFresh_any (N := s.n) (frR s f) (fun _ wy => Below wx.heap.size wx wy) D E D E D E h.ws.c1 (Below.refl _ _) (fun wy hy => pcores_any (hx.on hy).x.v h.ws) (fun j wy hy => ⟨fkeep hy hR.1, fkeep hy hR.2.1, fkeep hy hR.2.2⟩)
   (fun wy hy => (fresh1_any f (hx.on hy) (hD.on hy).m (hD.on hy).f).mono fun e w' ⟨q1, q2⟩ => ⟨q1, hy.trans (q2.mono hy.size)⟩)
   (fun wy hy => (fresh2_any f (hx.on hy) (hD.on hy).m (hD.on hy).f).mono fun e w' ⟨q1, q2⟩ => ⟨q1, hy.trans (q2.mono hy.size)⟩)
   (fun wy hy => (fresh3_any f (hx.on hy) (hD.on hy).m (hD.on hy).f).mono fun e w' ⟨q1, q2⟩ => ⟨q1, hy.trans (q2.mono hy.size)⟩)).mono ?_
  rintro e w' ⟨h1, j, _, _, _, h2⟩
  exact ⟨h1, hB.trans (h2.mono hB.size)⟩
 have HB : Hid (Below w.heap.size w (((w.alloc (.cells #[.pointer (some ⟨p, 0, none⟩)] 35)).alloc (.cells #[.int .i64 f] 3)))) := bal (bal (Below.refl _ _) _) _
 have HD : Hid (Bd2 ((w.alloc (.cells #[.pointer (some ⟨p, 0, none⟩)] 35)).alloc (.cells #[.int .i64 f] 3)) w.heap.size (w.heap.size + 1) p f) := ⟨by simp, by have := heap_alloc_new (w.alloc (.cells #[.pointer (some ⟨p, 0, none⟩)] 35)) (.cells #[.int .i64 f] 3); rw [World.size_alloc] at this; rw [cell_of_row _ _ _ _ _ _ this]; rfl⟩
 clear h
 generalize frshE s f = V at HA ⊢
 go_enter Tryz.func99, Tryz.ntmps99
 go_upto_region 1 with fail
 generalize (w.alloc _).alloc _ = w1 at HB HD ⊢
 generalize hE : w.heap.size + 1 = E at HD ⊢
 generalize hD : w.heap.size = D at HD ⊢
 have HDm := HD.out.m
 have HDf := HD.out.f
 go_wp2_with (first
  | (go_at_call 171; refine (HA.out _ D E _ ?hb ?hd ?hr).mono ?_; (case hb => exact bal HB.out _); (case hd => exact HD.out.on (bal (Below.refl _ _) _)); (case hr => exact ⟨by rw [cell_of_row _ _ _ _ _ _ (heap_alloc_new _ _)]; rfl, by rw [cell_of_row _ _ _ _ _ _ (heap_alloc_new _ _)]; rfl, by rw [cell_of_row _ _ _ _ _ _ (heap_alloc_new _ _)]; rfl⟩); rintro e w2 ⟨rfl, hb⟩; have H2 := fhide hb; clear hb)
  | fail)
 go_ret
 exact ⟨rfl, H2.out⟩
end
end Pfind
namespace Pbpag
open Pbase Pchold Pfind Play Pmem Pmst Ppmach Ptint Go.RowKit Go.Shelf
theorem ghide {p : Prop} (h : p) : Hid p := h
structure Tz (w : World) : Prop where
 hd : Phead.TabW w
 cm : Pcomp.TabC w
 sk : Pstack.TabR w
 rv : Pqrcv.TabV w
 tp : Ppte.TabW w
 tr : Pradix.Wp w
theorem Tz.on {w w' : World} (h : Tz w) (hB : Below w.heap.size w w') : Tz w' := ⟨h.hd.on hB, h.cm.on hB, h.sk.on hB, h.rv.on hB, h.tp.on hB, h.tr.on hB⟩
structure Lv (w0 w w' : World) (p : Nat) (o : Nat -> Nat) (P : Pq) (s : St) : Prop where
 fx : Fx w0 w' p o P s
 k : Tint (PMine o) w w'
section
variable {w0 w w' w1 w2 : World} {p : Nat} {o : Nat -> Nat} {P : Pq} {s s' : St}
theorem lv_refl (h : Fx w0 w p o P s) : Lv w0 w w p o P s := ⟨h, Tint.refl _ _⟩
theorem Lv.on (h : Lv w0 w w1 p o P s) (hB : Below w1.heap.size w1 w2) : Lv w0 w w2 p o P s := ⟨h.fx.on hB, h.k.on hB⟩
theorem Lv.then (h : Lv w0 w w1 p o P s) (g : Lv w0 w1 w2 p o P s') : Lv w0 w w2 p o P s' := ⟨g.fx, h.k.trans g.k⟩
theorem lv_below (h : Fx w0 w p o P s) (hB : Below w.heap.size w w') : Lv w0 w w' p o P s := ⟨h.on hB, Tint.of_below _ hB⟩
theorem lv_px (h : Fx w0 w p o P s) (hx : Px w w' p o P s') (hw : Pmst.Ws s') (hf : Fit s'.M) : Lv w0 w w' p o P s' := ⟨h.turn hx hw hf, hx.k⟩
theorem lv_words (h : Fx w0 w p o P s) {M : Nat -> Nat -> Int} (hm : MemIs w' P.pm P.bm s.N M) (hf : Fit M) (hB : But P.bm w w') : Lv w0 w w' p o P { s with M := M } := ⟨h.words hm hf hB, pwide 22 (by omega) (by omega) (tint_but h.x.v.om.2 hB)⟩
theorem fx_new (h : Fx w0 w p o P s) {B : Nat} (hB : w.heap.size <= B) : ¬ PMine o B := fun ⟨a, b⟩ => absurd (h.x.v.own B a b) (by omega)
theorem Lv.size (h : Lv w0 w w1 p o P s) : w.heap.size <= w1.heap.size := h.k.size
theorem Lv.row (h : Lv w0 w w1 p o P s) {A : Nat} {t : TypeId} {cs : Array Value} (hr : RowB w A t cs) (hn : ¬ PMine o A) : RowB w1 A t cs := (h.k.block A hr.lt hn).trans hr
theorem ws_w (h : Pmst.Ws s) {M : Nat -> Nat -> Int} {T : Nat -> Ptyp.FS} {L : Nat -> Plive.LS} : Pmst.Ws { s with M := M, T := T, L := L } := ⟨h.n1, h.n64, h.c1, h.c4⟩
theorem gx_mem (h : Fx w0 w p o P s) : Calls Tryz.prog 14 #[.pointer (some ⟨p, 0, none⟩)] w fun e w' => e = .returned (.pointer (some ⟨P.pm, 0, none⟩)) /\ Lv w0 w w' p o P s := (pmem_any h.x.v h.ws).mono (by rintro e w' ⟨h1, h2⟩; exact ⟨h1, lv_below h h2⟩)
theorem gx_typ (h : Fx w0 w p o P s) : Calls Tryz.prog 32 #[.pointer (some ⟨p, 0, none⟩)] w fun e w' => e = .returned (.pointer (some ⟨P.pt, 0, none⟩)) /\ Lv w0 w w' p o P s := (ptyp_any h.x.v h.ws).mono (by rintro e w' ⟨h1, h2⟩; exact ⟨h1, lv_below h h2⟩)
theorem gx_live (h : Fx w0 w p o P s) : Calls Tryz.prog 109 #[.pointer (some ⟨p, 0, none⟩)] w fun e w' => e = .returned (.pointer (some ⟨P.pl, 0, none⟩)) /\ Lv w0 w w' p o P s := (plive_any h.x.v h.ws).mono (by rintro e w' ⟨h1, h2⟩; exact ⟨h1, lv_below h h2⟩)
theorem gx_floors (h : Fx w0 w p o P s) : Calls Tryz.prog 51 #[.pointer (some ⟨p, 0, none⟩)] w fun e w' => e = .returned (.tuple #[.int .i64 (Pclock.floE s.n s.C), .int .i64 (Pclock.floF s.n s.C)]) /\ Lv w0 w w' p o P s := (pfloors_any h.x.v h.ws).mono (by rintro e w' ⟨h1, h2⟩; exact ⟨h1, lv_below h h2⟩)
theorem gx_type (f : Int) (h : Fx w0 w p o P s) : Calls Tryz.prog 46 #[.pointer (some ⟨P.pt, 0, none⟩), .int .i64 f] w fun e w' => e = .returned (.int .i64 (Ptyp.toldA s.N s.T f).is) /\ Lv w0 w w' p o P s := (Ptyp.type_any _ _ _ f _ w h.ws.n1 h.ws.n64 h.x.v.typ).mono (by rintro e w' ⟨h1, h2⟩; exact ⟨h1, lv_below h h2⟩)
theorem gx_count (f : Int) (h : Fx w0 w p o P s) : Calls Tryz.prog 33 #[.pointer (some ⟨P.pt, 0, none⟩), .int .i64 f] w fun e w' => e = .returned (.int .i64 (Ptyp.toldA s.N s.T f).cnt) /\ Lv w0 w w' p o P s := (Ptyp.count_any _ _ _ f _ w h.ws.n1 h.ws.n64 h.x.v.typ).mono (by rintro e w' ⟨h1, h2⟩; exact ⟨h1, lv_below h h2⟩)
theorem gx_ref (f : Int) (h : Fx w0 w p o P s) : Calls Tryz.prog 53 #[.pointer (some ⟨P.pt, 0, none⟩), .int .i64 f] w fun e w' => e = .returned (.int .i64 (Ptyp.errA s.N s.T f Ptyp.hRf)) /\ Lv w0 w w' p o P { s with T := Ptyp.mapA s.N s.T f Ptyp.gRf } := by
 refine (Ptyp.ref_any _ _ _ f s.T w h.ws.n1 h.ws.n64 h.x.v.typ).mono ?_
 rintro x w' ⟨h1, rfl⟩
 have k := tint_row (w := w) h.x.v.ot.2 (Ptyp.cellsT s.N (Ptyp.mapA s.N s.T f Ptyp.gRf))
 exact ⟨h1, lv_px h ⟨(h.x.v.left k).turnT (h.x.v.typ.set (Ptyp.ok_map h.x.v.typ.ok _ f Ptyp.ok_rf)), pwide 24 (by omega) (by omega) k⟩ (ws_w h.ws) h.fit⟩
theorem gx_take (fl : Int) (h : Fx w0 w p o P s) : Calls Tryz.prog 110 #[.pointer (some ⟨P.pl, 0, none⟩), .int .i64 fl] w fun e w' => e = .returned (.tuple #[.int .i64 (Plive.tkI 64 s.L fl), .int .i64 (Plive.tkE 64 s.L fl), .int .i64 (Plive.tkR 64 s.L fl)]) /\ Lv w0 w w' p o P { s with L := Plive.tkS 64 s.L fl } := by
 refine (Plive.take_any _ _ 64 s.L fl w (by omega) (by omega) h.x.v.live).mono ?_
 rintro x w' ⟨h1, h2⟩
 have h3 := h2.tbl h.x.v.live (Plive.ok_tk h.x.v.live.ok 64 fl)
 obtain ⟨w1, hB, rfl⟩ := h2
 have k : Tint (fun i => o i = 25) w (w1.setRow P.rl (Plive.cellsT 64 (Plive.tkS 64 s.L fl))) := (Tint.of_below _ hB).trans (tint_row (w := w1) h.x.v.ol.2 _)
 exact ⟨h1, lv_px h ⟨(h.x.v.left k).turnL h3, pwide 25 (by omega) (by omega) k⟩ (ws_w h.ws) h.fit⟩
theorem gx_hmake (f k l : Int) (z : Bool) (t : Int) (h : Fx w0 w p o P s) : Calls Tryz.prog 177 #[.pointer (some ⟨P.pm, 0, none⟩), .int .i64 f, .agg #[.int .i64 k, .int .i64 l, .bool z, .int .i64 t]] w fun e w' => e = .returned (.int .i64 (Phead.errP s.N f k l z t)) /\ Lv w0 w w' p o P { s with M := Phead.mkM s.N s.M f k l z t } :=
 (Phead.hmake_any _ _ _ f k l z t _ w h.ws.n1 h.ws.n64 h.x.v.mem h.hd).mono (by rintro e w' ⟨h1, h2, h3⟩; exact ⟨h1, lv_words h h2 (Phead.fit_mk h.fit _ f k l z t) h3⟩)
theorem gx_ctmake (f l : Int) (h : Fx w0 w p o P s) : Calls Tryz.prog 100 #[.pointer (some ⟨P.pm, 0, none⟩), .int .i64 f, .int .i64 l] w fun e w' => e = .returned (.int .i64 (Phead.errP s.N f 1 l false 0)) /\ Lv w0 w w' p o P { s with M := Phead.mkM s.N s.M f 1 l false 0 } := by
 have HM := ghide (gx_hmake f 1 l false 0 h)
 clear h
 go_enter Tryz.func100, Tryz.ntmps100
 go_wp2_with (first
  | (go_at_call 177; refine HM.out.mono ?_; rintro e1 w1 ⟨rfl, hb⟩; have H1 := ghide hb; clear hb)
  | fail)
 go_ret
 exact ⟨rfl, H1.out⟩
theorem gx_pgmake (f l : Int) (h : Fx w0 w p o P s) : Calls Tryz.prog 101 #[.pointer (some ⟨P.pm, 0, none⟩), .int .i64 f, .int .i64 l] w fun e w' => e = .returned (.int .i64 (Phead.errP s.N f 2 l false 0)) /\ Lv w0 w w' p o P { s with M := Phead.mkM s.N s.M f 2 l false 0 } := by
 have HM := ghide (gx_hmake f 2 l false 0 h)
 clear h
 go_enter Tryz.func101, Tryz.ntmps101
 go_wp2_with (first
  | (go_at_call 177; refine HM.out.mono ?_; rintro e1 w1 ⟨rfl, hb⟩; have H1 := ghide hb; clear hb)
  | fail)
 go_ret
 exact ⟨rfl, H1.out⟩
theorem fx_mxC (h : Fx w0 w p o P s) (hT : Tz w0) : Pcomp.Mx w P.pm P.bm s.N s.M := ⟨h.x.v.mem, ⟨h.hd, hT.cm.on h.below⟩, h.fit, h.ws.n1, h.ws.n64⟩
theorem fx_mxT (h : Fx w0 w p o P s) : Pthd.Mx w P.pm P.bm s.N s.M := ⟨h.x.v.mem, h.hd, h.fit, h.ws.n1, h.ws.n64⟩
theorem fx_mxS (h : Fx w0 w p o P s) (hT : Tz w0) : Pstack.Sx w P.pm P.bm s.N s.M := ⟨(fx_mxT h), hT.sk.on h.below⟩
theorem fx_mxB (h : Fx w0 w p o P s) : Ptcap.Mx w P.pm P.bm s.N s.M := ⟨h.x.v.mem, h.hd, h.fit, h.ws.n1, h.ws.n64⟩
theorem fx_mxR (h : Fx w0 w p o P s) (hT : Tz w0) : Pqrcv.Mv w P.pm P.bm s.N s.M := ⟨⟨h.x.v.mem, h.hd, h.fit, h.ws.n1, h.ws.n64⟩, hT.rv.on h.below⟩
theorem fx_mxP (h : Fx w0 w p o P s) (hT : Tz w0) : Ppgtbl.Mx w P.pm P.bm s.N s.M := ⟨h.x.v.mem, ⟨h.hd, hT.tp.on h.below, hT.tr.on h.below⟩, h.fit, h.ws.n1, h.ws.n64⟩
theorem gx_comake (f : Int) (c : Pcomp.Cp) (hc : Pcomp.Fi c) (hT : Tz w0) (h : Fx w0 w p o P s) : Calls Tryz.prog 112 #[.pointer (some ⟨P.pm, 0, none⟩), .int .i64 f, .agg #[.int .i64 c.tb, .int .i64 c.pg, .int .i64 c.l, .int .i64 c.e, .int .i64 c.fa, .int .i64 c.wh]] w fun e w' => e = .returned (.int .i64 (Pcomp.mkE s.N f c)) /\ Lv w0 w w' p o P { s with M := Pcomp.mkM s.N s.M f c } := (Pcomp.make_any _ _ _ f c _ w (fx_mxC h hT) hc).mono (by rintro e w' ⟨h1, h2, h3⟩; exact ⟨h1, lv_words h h2.mem h2.fit h3⟩)
theorem gx_thmake (f : Int) (c : Pthd.Th) (hc : Pthd.Fi c) (h : Fx w0 w p o P s) : Calls Tryz.prog 124 #[.pointer (some ⟨P.pm, 0, none⟩), .int .i64 f, .agg #[.int .i64 c.st, .int .i64 c.co, .int .i64 c.tc, .int .i64 c.rc, .int .i64 c.de]] w fun e w' => e = .returned (.int .i64 (Pthd.mkE s.N f c)) /\ Lv w0 w w' p o P { s with M := Pthd.mkM s.N s.M f c } := (Pthd.make_any _ _ _ f c _ w (fx_mxT h) hc).mono (by rintro e w' ⟨h1, h2, h3⟩; exact ⟨h1, lv_words h h2.mem h2.fit h3⟩)
theorem gx_tcmake (f : Int) (c : Ptcap.Bd) (hc : Ptcap.Fb c) (h : Fx w0 w p o P s) : Calls Tryz.prog 120 #[.pointer (some ⟨P.pm, 0, none⟩), .int .i64 f, .agg #[.bool c.inf, .int .i64 c.lf, .int .i64 c.pr]] w fun e w' => e = .returned (.int .i64 (Ptcap.mkE s.N f c)) /\ Lv w0 w w' p o P { s with M := Ptcap.mkM s.N s.M f c } := (Ptcap.make_any _ _ _ f c _ w (fx_mxB h) hc).mono (by rintro e w' ⟨h1, h2, h3⟩; exact ⟨h1, lv_words h h2.mem h2.fit h3⟩)
theorem gx_rvmake (f : Int) (c : Pqrcv.Rv) (hc : Pqrcv.Fv c) (hT : Tz w0) (h : Fx w0 w p o P s) : Calls Tryz.prog 132 #[.pointer (some ⟨P.pm, 0, none⟩), .int .i64 f, .agg #[.int .i64 c.th, .int .i64 c.pa, .int .i64 c.co, .bool c.wa, .int .i64 c.lo]] w fun e w' => e = .returned (.int .i64 (Pqrcv.vmE s.N f c)) /\ Lv w0 w w' p o P { s with M := Pqrcv.vmM s.N s.M f c } := (Pqrcv.make_any _ _ _ f c _ w (fx_mxR h hT) hc).mono (by rintro e w' ⟨h1, h2, h3⟩; exact ⟨h1, lv_words h h2.mx.mem h2.mx.fit h3⟩)
theorem gx_push (f : Int) (x : Pstack.Rc) (hT : Tz w0) (h : Fx w0 w p o P s) : Calls Tryz.prog 125 #[.pointer (some ⟨P.pm, 0, none⟩), .int .i64 f, .agg #[.int .i64 x.co, .int .i64 x.tb, .int .i64 x.pg, .int .i64 x.l, .int .i64 x.e, .int .i64 x.ip]] w fun e w' => e = .returned (.int .i64 (Pstack.psE s.N s.M f x)) /\ Lv w0 w w' p o P { s with M := Pstack.psM s.N s.M f x } := (Pstack.push_any _ _ _ f x _ w (fx_mxS h hT)).mono (by rintro e w' ⟨h1, h2, h3⟩; exact ⟨h1, lv_words h h2.mx.mem h2.mx.fit h3⟩)
end
end Pbpag
namespace Pbpag
open Pbase Pmem Go.RowKit Go.ChangeShapes Go.WideShapes
theorem of_laid_page {W : World} (h : laidMetH Tryz.prog Rows.pageZeroRow.laid W) : Tz W := by
 rw [MakeChecks.laidMetH_plain _ _ _ (by kernel_rfl)] at h
 obtain ⟨ps, ⟨g0, t0, cs0, f0, p0, q0, hg0, ht0, hv0, hd0, ⟨g1, t1, cs1, f1, p1, q1, hg1, ht1, hv1, hd1, ⟨g2, t2, cs2, f2, p2, q2, hg2, ht2, hv2, hd2, ⟨g3, t3, cs3, f3, p3, q3, hg3, ht3, hv3, hd3, ⟨g4, t4, cs4, f4, p4, q4, hg4, ht4, hv4, hd4, ⟨g5, t5, cs5, f5, p5, q5, hg5, ht5, hv5, hd5, _, _⟩, _⟩, _⟩, _⟩, _⟩, _⟩, _, _⟩ := h
 exact ⟨Phead.tabW_of (by kernel_rfl) hg0 ht0 hv0 hd0, Pcomp.tabC_of (by kernel_rfl) hg1 ht1 hv1 hd1, Pstack.tabR_of (by kernel_rfl) hg5 ht5 hv5 hd5, Pqrcv.tabV_of (by kernel_rfl) hg4 ht4 hv4 hd4, Ppte.tabW_of (by kernel_rfl) hg2 ht2 hv2 hd2, ⟨(Pradix.tabP_of (by kernel_rfl) hg3 ht3 hv3 hd3).1, (Pradix.tabP_of (by kernel_rfl) hg3 ht3 hv3 hd3).2⟩⟩
end Pbpag
namespace Pbpag
open Pbase Pchold Pfind Play Pmem Pmst Ppmach Ptint Go.RowKit Go.Shelf
def mL (L : List (List Int)) : Nat -> Nat -> Int := fun f j => (L[f]?.getD [])[j]?.getD 0
def tL (L : List Ptyp.FS) : Nat -> Ptyp.FS := fun f => L[f]?.getD Ptyp.noFS
def fitL (L : List (List Int)) : Bool := L.all fun r => r.all fun v => decide (0 <= v) && decide (v <= 18446744073709551615)
def okL (L : List Ptyp.FS) : Bool := L.all fun x => decide (0 <= x.cnt) && decide (x.cnt <= 1000)
def eqM (N : Nat) (M M' : Nat -> Nat -> Int) : Bool := (List.range N).all fun f => (List.range 36).all fun j => decide (M f j = M' f j)
def eqF (x y : Ptyp.FS) : Bool := decide (x.is = y.is) && decide (x.was = y.was) && decide (x.cnt = y.cnt) && decide (x.fr = y.fr)
def eqT (N : Nat) (T T' : Nat -> Ptyp.FS) : Bool := (List.range N).all fun f => eqF (T f) (T' f)
theorem fitL_fit {L : List (List Int)} (h : fitL L = true) : Fit (mL L) := fun f a => by
 unfold mL
 cases hf : L[f]? with
 | none => simp
 | some r =>
   have hr : r ∈ L := List.mem_of_getElem? hf
   cases ha : r[a]? with
   | none => simp [ha]
   | some v =>
     have hv : v ∈ r := List.mem_of_getElem? ha
     have := List.all_eq_true.1 h r hr
     have := List.all_eq_true.1 this v hv
     simp only [Bool.and_eq_true, decide_eq_true_eq] at this
     simpa [ha] using this
theorem okL_ok {L : List Ptyp.FS} (h : okL L = true) : Ptyp.okA (tL L) := fun i => by
 unfold tL
 cases hf : L[i]? with
 | none => exact ⟨by simp [Ptyp.noFS], by simp [Ptyp.noFS]⟩
 | some x =>
   have := List.all_eq_true.1 h x (List.mem_of_getElem? hf)
   simp only [Bool.and_eq_true, decide_eq_true_eq] at this
   exact ⟨this.1, this.2⟩
theorem eqM_cells {N : Nat} {M M' : Nat -> Nat -> Int} (h : eqM N M M' = true) : cellsM N M = cellsM N M' := by
 unfold cellsM
 apply Array.ext_getElem?
 intro i
 by_cases hi : i < N * 36
 · have h1 : i / 36 < N := by omega
   have := List.all_eq_true.1 h (i / 36) (List.mem_range.2 h1)
   have := List.all_eq_true.1 this (i % 36) (List.mem_range.2 (Nat.mod_lt _ (by omega)))
   simp only [decide_eq_true_eq] at this
   simp [hi, this]
 · rw [Array.getElem?_eq_none (by simp; omega), Array.getElem?_eq_none (by simp; omega)]
theorem eqT_at {N : Nat} {T T' : Nat -> Ptyp.FS} (h : eqT N T T' = true) {f : Nat} (hf : f < N) : T f = T' f := by
 have := List.all_eq_true.1 h f (List.mem_range.2 hf)
 unfold eqF at this
 simp only [Bool.and_eq_true, decide_eq_true_eq] at this
 obtain ⟨⟨⟨a, b⟩, c⟩, d⟩ := this
 revert a b c d
 cases T f
 cases T' f
 intro a b c d
 simp only at a b c d
 subst a b c d
 rfl
theorem eqT_cells {N : Nat} {T T' : Nat -> Ptyp.FS} (h : eqT N T T' = true) : Ptyp.cellsT N T = Ptyp.cellsT N T' := by
 unfold Ptyp.cellsT
 congr 1
 apply List.map_congr_left
 intro i hi
 have hi := List.mem_range.1 hi
 rw [eqT_at h (f := i / 4) (by omega)]
theorem lv_norm {w0 w x : World} {p : Nat} {o : Nat -> Nat} {P : Pq} {s : St} {M : Nat -> Nat -> Int} {T : Nat -> Ptyp.FS} (h : Lv w0 w x p o P s) (hM : eqM s.N s.M M = true) (hF : Fit M) (hT : eqT s.N s.T T = true) (hO : Ptyp.okA T) : Lv w0 w x p o P { s with M := M, T := T } := by
 have v := h.fx.x.v
 have m1 : MemIs x P.pm P.bm s.N M := ⟨v.mem.head, by rw [<- eqM_cells hM]; exact v.mem.row⟩
 have v1 := (v.left (Tint.refl (fun i => o i = 22) x)).turnM m1
 have t1 : Ptyp.TblIs x P.pt P.rt s.N T := ⟨v.typ.head, by rw [<- eqT_cells hT]; exact v.typ.row, hO⟩
 have v2 := (v1.left (Tint.refl (fun i => o i = 24) x)).turnT t1
 exact ⟨⟨⟨v2, h.fx.x.k⟩, ⟨h.fx.ws.n1, h.fx.ws.n64, h.fx.ws.c1, h.fx.ws.c4⟩, h.fx.old, h.fx.tb, hF⟩, h.k⟩
def gS (M : List (List Int)) (T : List Ptyp.FS) (L : Nat -> Plive.LS) : St := { nwS 12 2 2 with M := mL M, T := tL T, L := L }
theorem cell_new {w : World} {v : Value} {cs : Array Value} {t : TypeId} (j : Nat) (h : cs[j]? = some v) : (w.alloc (.cells cs t)).cell? ⟨w.heap.size, j, none⟩ = some v := (cell_of_row _ _ j _ _ _ (heap_alloc_new w _)).trans h
theorem zeros3 (j : Nat) (h : j < 3) : (#[Value.int .i64 0, .int .i64 0, .int .i64 0])[j]? = some (.int .i64 0) := by
 rcases (show j = 0 \/ j = 1 \/ j = 2 by omega) with rfl | rfl | rfl <;> rfl
theorem zeros4 (j : Nat) (h : j < 4) : (#[Value.int .i64 0, .int .i64 0, .int .i64 0, .int .i64 0])[j]? = some (.int .i64 0) := by
 rcases (show j = 0 \/ j = 1 \/ j = 2 \/ j = 3 by omega) with rfl | rfl | rfl | rfl <;> rfl
theorem zeros2 (j : Nat) (h : j < 2) : (#[Value.int .i64 0, .int .i64 0])[j]? = some (.int .i64 0) := by
 rcases (show j = 0 \/ j = 1 by omega) with rfl | rfl <;> rfl
section
variable {w0 w : World} {p : Nat} {o : Nat -> Nat} {P : Pq} {s : St}
theorem btbl_ok (f l : Int) (h : Fx w0 w p o P s) (hf : frshE s f = 0) : Calls Tryz.prog 62 #[.pointer (some ⟨p, 0, none⟩), .int .i64 f, .int .i64 l] w fun e w' => e = .returned (.int .i64 (Phead.errP s.N f 1 l false 0)) /\ Lv w0 w w' p o P { s with M := Phead.mkM s.N s.M f 1 l false 0 } := by
 have HF := ghide (fresh_any f h)
 rw [hf] at HF
 have H0 := ghide (lv_refl h)
 have HM : Hid (∀ wx, Lv w0 w wx p o P s -> Calls Tryz.prog 14 #[.pointer (some ⟨p, 0, none⟩)] wx fun e w' => e = .returned (.pointer (some ⟨P.pm, 0, none⟩)) /\ Lv w0 w w' p o P s) := fun wx hx => (gx_mem hx.fx).mono (by rintro e w' ⟨h1, h2⟩; exact ⟨h1, hx.then h2⟩)
 have HK : Hid (∀ wx, Lv w0 w wx p o P s -> Calls Tryz.prog 100 #[.pointer (some ⟨P.pm, 0, none⟩), .int .i64 f, .int .i64 l] wx fun e w' => e = .returned (.int .i64 (Phead.errP s.N f 1 l false 0)) /\ Lv w0 w w' p o P { s with M := Phead.mkM s.N s.M f 1 l false 0 }) := fun wx hx => (gx_ctmake f l hx.fx).mono (by rintro e w' ⟨h1, h2⟩; exact ⟨h1, hx.then h2⟩)
 clear h hf
 generalize { s with M := Phead.mkM s.N s.M f 1 l false 0 } = s2 at HK ⊢
 generalize Phead.errP s.N f 1 l false 0 = E at HK ⊢
 go_enter Tryz.func62, Tryz.ntmps62
 go_wp2_with (first
  | (go_at_call 99; refine HF.out.mono ?_; rintro e w1 ⟨rfl, hb⟩; have H1 := ghide (H0.out.on hb); clear hb HF H0)
  | (go_at_call 14; refine (HM.out _ H1.out).mono ?_; rintro e w2 ⟨rfl, hb⟩; have H2 := ghide hb; clear hb HM H1)
  | (go_at_call 100; refine (HK.out _ H2.out).mono ?_; rintro e w3 ⟨rfl, hb⟩; have H3 := ghide hb; clear hb HK H2)
  | fail)
 go_ret
 exact ⟨rfl, H3.out⟩
theorem bpgt_ok (f l : Int) (h : Fx w0 w p o P s) (hf : frshE s f = 0) : Calls Tryz.prog 63 #[.pointer (some ⟨p, 0, none⟩), .int .i64 f, .int .i64 l] w fun e w' => e = .returned (.int .i64 (Phead.errP s.N f 2 l false 0)) /\ Lv w0 w w' p o P { s with M := Phead.mkM s.N s.M f 2 l false 0 } := by
 have HF := ghide (fresh_any f h)
 rw [hf] at HF
 have H0 := ghide (lv_refl h)
 have HM : Hid (∀ wx, Lv w0 w wx p o P s -> Calls Tryz.prog 14 #[.pointer (some ⟨p, 0, none⟩)] wx fun e w' => e = .returned (.pointer (some ⟨P.pm, 0, none⟩)) /\ Lv w0 w w' p o P s) := fun wx hx => (gx_mem hx.fx).mono (by rintro e w' ⟨h1, h2⟩; exact ⟨h1, hx.then h2⟩)
 have HK : Hid (∀ wx, Lv w0 w wx p o P s -> Calls Tryz.prog 101 #[.pointer (some ⟨P.pm, 0, none⟩), .int .i64 f, .int .i64 l] wx fun e w' => e = .returned (.int .i64 (Phead.errP s.N f 2 l false 0)) /\ Lv w0 w w' p o P { s with M := Phead.mkM s.N s.M f 2 l false 0 }) := fun wx hx => (gx_pgmake f l hx.fx).mono (by rintro e w' ⟨h1, h2⟩; exact ⟨h1, hx.then h2⟩)
 clear h hf
 generalize { s with M := Phead.mkM s.N s.M f 2 l false 0 } = s2 at HK ⊢
 generalize Phead.errP s.N f 2 l false 0 = E at HK ⊢
 go_enter Tryz.func63, Tryz.ntmps63
 go_wp2_with (first
  | (go_at_call 99; refine HF.out.mono ?_; rintro e w1 ⟨rfl, hb⟩; have H1 := ghide (H0.out.on hb); clear hb HF H0)
  | (go_at_call 14; refine (HM.out _ H1.out).mono ?_; rintro e w2 ⟨rfl, hb⟩; have H2 := ghide hb; clear hb HM H1)
  | (go_at_call 101; refine (HK.out _ H2.out).mono ?_; rintro e w3 ⟨rfl, hb⟩; have H3 := ghide hb; clear hb HK H2)
  | fail)
 go_ret
 exact ⟨rfl, H3.out⟩
theorem btcp_ok (f : Int) (h : Fx w0 w p o P s) (hf : frshE s f = 0) : Calls Tryz.prog 68 #[.pointer (some ⟨p, 0, none⟩), .int .i64 f] w fun e w' => e = .returned (.int .i64 (Ptcap.mkE s.N f Ptcap.bd0)) /\ Lv w0 w w' p o P { s with M := Ptcap.mkM s.N s.M f Ptcap.bd0 } := by
 have HF := ghide (fresh_any f h)
 rw [hf] at HF
 have H0 := ghide (lv_refl h)
 have HM : Hid (∀ wx, Lv w0 w wx p o P s -> Calls Tryz.prog 14 #[.pointer (some ⟨p, 0, none⟩)] wx fun e w' => e = .returned (.pointer (some ⟨P.pm, 0, none⟩)) /\ Lv w0 w w' p o P s) := fun wx hx => (gx_mem hx.fx).mono (by rintro e w' ⟨h1, h2⟩; exact ⟨h1, hx.then h2⟩)
 have HK : Hid (∀ wx, Lv w0 w wx p o P s -> Calls Tryz.prog 120 #[.pointer (some ⟨P.pm, 0, none⟩), .int .i64 f, .agg #[.bool false, .int .i64 0, .int .i64 0]] wx fun e w' => e = .returned (.int .i64 (Ptcap.mkE s.N f Ptcap.bd0)) /\ Lv w0 w w' p o P { s with M := Ptcap.mkM s.N s.M f Ptcap.bd0 }) := fun wx hx => (gx_tcmake f Ptcap.bd0 (by unfold Ptcap.Fb Ptcap.bd0 In64; simp) hx.fx).mono (by rintro e w' ⟨h1, h2⟩; exact ⟨h1, hx.then h2⟩)
 clear h hf
 generalize { s with M := Ptcap.mkM s.N s.M f Ptcap.bd0 } = s2 at HK ⊢
 generalize Ptcap.mkE s.N f Ptcap.bd0 = E at HK ⊢
 go_enter Tryz.func68, Tryz.ntmps68
 go_wp2_with (first
  | (go_at_call 99; refine HF.out.mono ?_; rintro e w1 ⟨rfl, hb⟩; have H1 := ghide (H0.out.on hb); clear hb HF H0)
  | (go_at_call 14; refine (HM.out _ H1.out).mono ?_; rintro e w2 ⟨rfl, hb⟩; have H2 := ghide hb; clear hb HM H1)
  | (go_at_call 120; refine (HK.out _ H2.out).mono ?_; rintro e w3 ⟨rfl, hb⟩; have H3 := ghide hb; clear hb HK H2)
  | fail)
 go_ret
 exact ⟨rfl, H3.out⟩
end
end Pbpag
end Go.Proofs.YtkkclcihjojphaaGreatDoor
