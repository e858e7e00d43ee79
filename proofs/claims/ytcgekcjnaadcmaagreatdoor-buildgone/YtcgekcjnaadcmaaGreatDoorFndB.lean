/- A machine and its tables; what lives, Fresh with its questions, Alive, answer in it. -/
import Derived.Test.YtcgekcjnaadcmaaGreatDoorFndA
import Derived.Test.YtcgekcjnaadcmaaGreatDoorBunPmach
import Derived.Test.YtcgekcjnaadcmaaGreatDoorBunPtyp
import Derived.Test.YtcgekcjnaadcmaaGreatDoorBunPlive
import Derived.Test.YtcgekcjnaadcmaaGreatDoorBunHead
import Derived.Deep.RegionHeld3
import Derived.Deep.CutBlock
import Derived.Deep.DeepCutAuto
namespace Go.Proofs.YtcgekcjnaadcmaaGreatDoor.Pfind
open Go.Proofs.YtcgekcjnaadcmaaGreatDoor.Pbase Go.Proofs.YtcgekcjnaadcmaaGreatDoor.Pchold Go.Proofs.YtcgekcjnaadcmaaGreatDoor.Pmem Go.Proofs.YtcgekcjnaadcmaaGreatDoor.Pmst Go.Proofs.YtcgekcjnaadcmaaGreatDoor.Ppmach Go.Proofs.YtcgekcjnaadcmaaGreatDoor.Ptint
open Go.RowKit
set_option linter.unusedVariables false
set_option linter.unusedSimpArgs false

/-- The program's machine behind some calls, all its blocks made since w0, and head's table. -/
structure Fx (w0 w : World) (p : Nat) (o : Nat → Nat) (P : Pq) (s : St) : Prop where
  x : Px w0 w p o P s
  ws : Pmst.Ws s
  old : ∀ i, i < w0.heap.size → o i = 99
  tb : Phead.TabW w0
  fit : Fit s.M
section
variable {w0 w w' : World} {p : Nat} {o : Nat → Nat} {P : Pq} {s s' : St}
theorem Fx.on (h : Fx w0 w p o P s) (hB : Below w.heap.size w w') : Fx w0 w' p o P s := ⟨h.x.on h.ws.c4 hB, h.ws, h.old, h.tb, h.fit⟩
theorem Fx.below (h : Fx w0 w p o P s) : Below w0.heap.size w0 w := h.x.k.below (fun i hi ⟨g, g'⟩ => by have := h.old i hi; omega) (Nat.le_refl _)
theorem Fx.hd (h : Fx w0 w p o P s) : Phead.TabW w := h.tb.on h.below
/-- A call has turned it. -/
theorem Fx.turn (h : Fx w0 w p o P s) (hx : Px w w' p o P s') (hw : Pmst.Ws s') (hf : Fit s'.M) : Fx w0 w' p o P s' := ⟨⟨hx.v, h.x.k.trans hx.k⟩, hw, h.old, h.tb, hf⟩
/-- A call has turned its memory alone. -/
theorem Fx.words (h : Fx w0 w p o P s) {M : Nat → Nat → Int} (hm : MemIs w' P.pm P.bm s.N M) (hf : Fit M) (hB : But P.bm w w') : Fx w0 w' p o P { s with M := M } :=
  have k := tint_but (o := o) h.x.v.om.2 hB
  h.turn ⟨(h.x.v.left k).turnM hm, pwide 22 (by omega) (by omega) k⟩ ⟨h.ws.n1, h.ws.n64, h.ws.c1, h.ws.c4⟩ hf
theorem fkeep (hB : Below w.heap.size w w') {b j : Nat} {v : Value} (hc : w.cell? ⟨b, j, none⟩ = some v) : w'.cell? ⟨b, j, none⟩ = some v := (hB.cell (p := ⟨b, j, none⟩) (World.block_lt_of_cell? _ ⟨b, j, none⟩ hc)).trans hc
/-! ### lives -/
set_option maxRecDepth 100000 in
theorem lives_any (id ep : Int) (h : Fx w0 w p o P s) : Calls Tryz.prog 104 #[.pointer (some ⟨p, 0, none⟩), .int .i64 id, .int .i64 ep] w fun e w' => e = .returned (.bool (Plive.vaA 64 s.L id ep)) ∧ Below w.heap.size w w' := by
  have HL := fhide (plive_any h.x.v h.ws)
  have HV : Hid (∀ wx, Below w.heap.size w wx → Calls Tryz.prog 151 #[.pointer (some ⟨P.pl, 0, none⟩), .int .i64 id, .int .i64 ep] wx fun e w' => e = .returned (.bool (Plive.vaA 64 s.L id ep)) ∧ Below w.heap.size w w') := fun wx hB => (Plive.valid_any _ _ 64 _ id ep wx (by omega) (by omega) (h.x.v.grown h.ws.c4 hB).live).mono (by rintro e w' ⟨h1, h2⟩; exact ⟨h1, hB.trans (h2.mono hB.size)⟩)
  clear h
  generalize Plive.vaA 64 s.L id ep = V at HV ⊢
  go_enter Tryz.func104, Tryz.ntmps104
  go_wp2_with (first
    | (go_at_call 35; refine HL.out.mono ?_; rintro e1 w1 ⟨rfl, hb⟩; have H1 := fhide hb; clear hb HL)
    | (go_at_call 151; refine (HV.out _ H1.out).mono ?_; rintro e1 w2 ⟨rfl, hb⟩; have H2 := fhide hb; clear hb HV H1)
    | fail)
  go_ret
  exact ⟨rfl, H2.out⟩
set_option maxRecDepth 100000 in
/-! ### Fresh -/
def frR (s : St) (f : Int) : Nat → Int
  | 0 => unI ((Ptyp.toldA s.N s.T f).is == 2) 4
  | 1 => unI ((Ptyp.toldA s.N s.T f).cnt == 0) 10
  | _ => unI (Phead.isE s.N s.M f 0 == 0) 10
def frshE (s : St) (f : Int) : Int := fstN (frR s f) 3
set_option maxRecDepth 100000 in
set_option maxHeartbeats 1000000 in
theorem fresh1_any (f : Int) {D E : Nat} (h : Fx w0 w p o P s) (cD : w.cell? ⟨D, 0, none⟩ = some (.pointer (some ⟨p, 0, none⟩))) (cE : w.cell? ⟨E, 0, none⟩ = some (.int .i64 f)) : Calls Tryz.prog 84 #[.pointer (some ⟨D, 0, none⟩), .pointer (some ⟨E, 0, none⟩)] w fun e w' => e = .returned (.int .i64 (frR s f 0)) ∧ Below w.heap.size w w' := by
  have HT : Hid (∀ wx, Below w.heap.size w wx → Calls Tryz.prog 20 #[.pointer (some ⟨p, 0, none⟩)] wx fun e w' => e = .returned (.pointer (some ⟨P.pt, 0, none⟩)) ∧ Below w.heap.size w w') := fun wx hB => (ptyp_any (h.on hB).x.v h.ws).mono (by rintro e w' ⟨h1, h2⟩; exact ⟨h1, hB.trans (h2.mono hB.size)⟩)
  have HY : Hid (∀ wx, Below w.heap.size w wx → Calls Tryz.prog 48 #[.pointer (some ⟨P.pt, 0, none⟩), .int .i64 f] wx fun e w' => e = .returned (.int .i64 (Ptyp.toldA s.N s.T f).is) ∧ Below w.heap.size w w') := fun wx hB => (Ptyp.type_any _ _ _ f _ wx h.ws.n1 h.ws.n64 (h.on hB).x.v.typ).mono (by rintro e w' ⟨h1, h2⟩; exact ⟨h1, hB.trans (h2.mono hB.size)⟩)
  have HC : Hid (∀ wx, Below w.heap.size w wx → wx.cell? ⟨D, 0, none⟩ = some (.pointer (some ⟨p, 0, none⟩)) ∧ wx.cell? ⟨E, 0, none⟩ = some (.int .i64 f)) := fun wx hB => ⟨fkeep hB cD, fkeep hB cE⟩
  have HB0 : Hid (Below w.heap.size w w.drew) := (Below.refl _ _).drew
  have kS0 := HC.out _ HB0.out
  unfold frR
  clear h cD cE
  generalize (Ptyp.toldA s.N s.T f).is = V at HY ⊢
  go_enter Tryz.func84, Tryz.ntmps84
  go_upto_region 1 with fail
  go_region_held3 (fun W => W.cell? ⟨D, 0, none⟩ = some (.pointer (some ⟨p, 0, none⟩)) ∧ W.cell? ⟨E, 0, none⟩ = some (.int .i64 f)) (first | assumption | exact kS0 | exact kS1 | exact kS2 | go_keep)
    (first
      | (go_at_call 20; refine (HT.out _ HB0.out).mono ?_; rintro e1 w1 ⟨rfl, hb⟩; have HB1 := fhide hb; have kS1 := HC.out _ hb; clear hb HT)
      | (go_at_call 48; refine (HY.out _ HB1.out).mono ?_; rintro e1 w2 ⟨rfl, hb⟩; have HB2 := fhide hb; have kS2 := HC.out _ hb; clear hb HY)
      | (go_at_call 85; refine (unless_any _ 4 _).mono ?_; rintro e1 w3 ⟨rfl, hw⟩; subst w3)
      | fail)
  all_goals
    go_wp2
    go_ret
    exact ⟨rfl, HB2.out⟩
set_option maxRecDepth 100000 in
set_option maxHeartbeats 1000000 in
theorem fresh2_any (f : Int) {D E : Nat} (h : Fx w0 w p o P s) (cD : w.cell? ⟨D, 0, none⟩ = some (.pointer (some ⟨p, 0, none⟩))) (cE : w.cell? ⟨E, 0, none⟩ = some (.int .i64 f)) : Calls Tryz.prog 86 #[.pointer (some ⟨D, 0, none⟩), .pointer (some ⟨E, 0, none⟩)] w fun e w' => e = .returned (.int .i64 (frR s f 1)) ∧ Below w.heap.size w w' := by
  have HT : Hid (∀ wx, Below w.heap.size w wx → Calls Tryz.prog 20 #[.pointer (some ⟨p, 0, none⟩)] wx fun e w' => e = .returned (.pointer (some ⟨P.pt, 0, none⟩)) ∧ Below w.heap.size w w') := fun wx hB => (ptyp_any (h.on hB).x.v h.ws).mono (by rintro e w' ⟨h1, h2⟩; exact ⟨h1, hB.trans (h2.mono hB.size)⟩)
  have HY : Hid (∀ wx, Below w.heap.size w wx → Calls Tryz.prog 87 #[.pointer (some ⟨P.pt, 0, none⟩), .int .i64 f] wx fun e w' => e = .returned (.int .i64 (Ptyp.toldA s.N s.T f).cnt) ∧ Below w.heap.size w w') := fun wx hB => (Ptyp.count_any _ _ _ f _ wx h.ws.n1 h.ws.n64 (h.on hB).x.v.typ).mono (by rintro e w' ⟨h1, h2⟩; exact ⟨h1, hB.trans (h2.mono hB.size)⟩)
  have HC : Hid (∀ wx, Below w.heap.size w wx → wx.cell? ⟨D, 0, none⟩ = some (.pointer (some ⟨p, 0, none⟩)) ∧ wx.cell? ⟨E, 0, none⟩ = some (.int .i64 f)) := fun wx hB => ⟨fkeep hB cD, fkeep hB cE⟩
  have HB0 : Hid (Below w.heap.size w w.drew) := (Below.refl _ _).drew
  have kS0 := HC.out _ HB0.out
  unfold frR
  clear h cD cE
  generalize (Ptyp.toldA s.N s.T f).cnt = V at HY ⊢
  go_enter Tryz.func86, Tryz.ntmps86
  go_upto_region 1 with fail
  go_region_held3 (fun W => W.cell? ⟨D, 0, none⟩ = some (.pointer (some ⟨p, 0, none⟩)) ∧ W.cell? ⟨E, 0, none⟩ = some (.int .i64 f)) (first | assumption | exact kS0 | exact kS1 | exact kS2 | go_keep)
    (first
      | (go_at_call 20; refine (HT.out _ HB0.out).mono ?_; rintro e1 w1 ⟨rfl, hb⟩; have HB1 := fhide hb; have kS1 := HC.out _ hb; clear hb HT)
      | (go_at_call 87; refine (HY.out _ HB1.out).mono ?_; rintro e1 w2 ⟨rfl, hb⟩; have HB2 := fhide hb; have kS2 := HC.out _ hb; clear hb HY)
      | (go_at_call 85; refine (unless_any _ 10 _).mono ?_; rintro e1 w3 ⟨rfl, hw⟩; subst w3)
      | fail)
  all_goals
    go_wp2
    go_ret
    exact ⟨rfl, HB2.out⟩
set_option maxRecDepth 100000 in
set_option maxHeartbeats 1000000 in
theorem fresh3_any (f : Int) {D E : Nat} (h : Fx w0 w p o P s) (cD : w.cell? ⟨D, 0, none⟩ = some (.pointer (some ⟨p, 0, none⟩))) (cE : w.cell? ⟨E, 0, none⟩ = some (.int .i64 f)) : Calls Tryz.prog 88 #[.pointer (some ⟨D, 0, none⟩), .pointer (some ⟨E, 0, none⟩)] w fun e w' => e = .returned (.int .i64 (frR s f 2)) ∧ Below w.heap.size w w' := by
  have HT : Hid (∀ wx, Below w.heap.size w wx → Calls Tryz.prog 15 #[.pointer (some ⟨p, 0, none⟩)] wx fun e w' => e = .returned (.pointer (some ⟨P.pm, 0, none⟩)) ∧ Below w.heap.size w w') := fun wx hB => (pmem_any (h.on hB).x.v h.ws).mono (by rintro e w' ⟨h1, h2⟩; exact ⟨h1, hB.trans (h2.mono hB.size)⟩)
  have HY : Hid (∀ wx, Below w.heap.size w wx → Calls Tryz.prog 89 #[.pointer (some ⟨P.pm, 0, none⟩), .int .i64 f, .int .i64 0] wx fun e w' => e = .returned (.int .i64 (Phead.isE s.N s.M f 0)) ∧ Below w.heap.size w w') := fun wx hB => (Phead.his_any _ _ _ f 0 _ wx h.ws.n1 h.ws.n64 (h.on hB).x.v.mem (h.on hB).hd h.fit).mono (by rintro e w' ⟨h1, h2⟩; exact ⟨h1, hB.trans (h2.mono hB.size)⟩)
  have HC : Hid (∀ wx, Below w.heap.size w wx → wx.cell? ⟨D, 0, none⟩ = some (.pointer (some ⟨p, 0, none⟩)) ∧ wx.cell? ⟨E, 0, none⟩ = some (.int .i64 f)) := fun wx hB => ⟨fkeep hB cD, fkeep hB cE⟩
  have HB0 : Hid (Below w.heap.size w w.drew) := (Below.refl _ _).drew
  have kS0 := HC.out _ HB0.out
  unfold frR
  clear h cD cE
  generalize (Phead.isE s.N s.M f 0) = V at HY ⊢
  go_enter Tryz.func88, Tryz.ntmps88
  go_upto_region 1 with fail
  go_region_held3 (fun W => W.cell? ⟨D, 0, none⟩ = some (.pointer (some ⟨p, 0, none⟩)) ∧ W.cell? ⟨E, 0, none⟩ = some (.int .i64 f)) (first | assumption | exact kS0 | exact kS1 | exact kS2 | go_keep)
    (first
      | (go_at_call 15; refine (HT.out _ HB0.out).mono ?_; rintro e1 w1 ⟨rfl, hb⟩; have HB1 := fhide hb; have kS1 := HC.out _ hb; clear hb HT)
      | (go_at_call 89; refine (HY.out _ HB1.out).mono ?_; rintro e1 w2 ⟨rfl, hb⟩; have HB2 := fhide hb; have kS2 := HC.out _ hb; clear hb HY)
      | (go_at_call 85; refine (unless_any _ 10 _).mono ?_; rintro e1 w3 ⟨rfl, hw⟩; subst w3)
      | fail)
  all_goals
    go_wp2
    go_ret
    exact ⟨rfl, HB2.out⟩
/-- What Fresh binds: the machine, the frame. -/
structure Bd2 (w : World) (D E p : Nat) (f : Int) : Prop where
  m : w.cell? ⟨D, 0, none⟩ = some (.pointer (some ⟨p, 0, none⟩))
  f : w.cell? ⟨E, 0, none⟩ = some (.int .i64 f)
theorem Bd2.on {D E : Nat} {f : Int} (h : Bd2 w D E p f) (hB : Below w.heap.size w w') : Bd2 w' D E p f := ⟨fkeep hB h.m, fkeep hB h.f⟩
set_option maxRecDepth 100000 in
set_option maxHeartbeats 1000000 in
theorem fresh_any (f : Int) (h : Fx w0 w p o P s) : Calls Tryz.prog 27 #[.pointer (some ⟨p, 0, none⟩), .int .i64 f] w fun e w' => e = .returned (.int .i64 (frshE s f)) ∧ Below w.heap.size w w' := by
  have HA : Hid (∀ wx D E R0, Below w.heap.size w wx → Bd2 wx D E p f → (wx.cell? ⟨R0, 0, none⟩ = some (.func (.func 84) #[] #[.pointer (some ⟨D, 0, none⟩), .pointer (some ⟨E, 0, none⟩)]) ∧ wx.cell? ⟨R0, 1, none⟩ = some (.func (.func 86) #[] #[.pointer (some ⟨D, 0, none⟩), .pointer (some ⟨E, 0, none⟩)]) ∧ wx.cell? ⟨R0, 2, none⟩ = some (.func (.func 88) #[] #[.pointer (some ⟨D, 0, none⟩), .pointer (some ⟨E, 0, none⟩)])) →
      Calls Tryz.prog 83 #[.pointer (some ⟨p, 0, none⟩), .slice (some ⟨R0, 0, none⟩) 3 3] wx fun e w' => e = .returned (.int .i64 (frshE s f)) ∧ Below w.heap.size w w') := fun wx D E R0 hB hD hR => by
    have hx := h.on hB
    refine (askFresh_any (N := s.n) (frR s f) (fun _ wy => Below wx.heap.size wx wy) D E D E D E h.ws.c1 (Below.refl _ _) (fun wy hy => pcores_any (hx.on hy).x.v h.ws) (fun j wy hy => ⟨fkeep hy hR.1, fkeep hy hR.2.1, fkeep hy hR.2.2⟩)
      (fun wy hy => (fresh1_any f (hx.on hy) (hD.on hy).m (hD.on hy).f).mono fun e w' ⟨q1, q2⟩ => ⟨q1, hy.trans (q2.mono hy.size)⟩)
      (fun wy hy => (fresh2_any f (hx.on hy) (hD.on hy).m (hD.on hy).f).mono fun e w' ⟨q1, q2⟩ => ⟨q1, hy.trans (q2.mono hy.size)⟩)
      (fun wy hy => (fresh3_any f (hx.on hy) (hD.on hy).m (hD.on hy).f).mono fun e w' ⟨q1, q2⟩ => ⟨q1, hy.trans (q2.mono hy.size)⟩)).mono ?_
    rintro e w' ⟨h1, j, _, _, _, h2⟩
    exact ⟨h1, hB.trans (h2.mono hB.size)⟩
  have HB : Hid (Below w.heap.size w (((w.alloc (.cells #[.pointer (some ⟨p, 0, none⟩)] 22)).alloc (.cells #[.int .i64 f] 3)))) := bal (bal (Below.refl _ _) _) _
  have HD : Hid (Bd2 ((w.alloc (.cells #[.pointer (some ⟨p, 0, none⟩)] 22)).alloc (.cells #[.int .i64 f] 3)) w.heap.size (w.heap.size + 1) p f) := ⟨by simp, by have := heap_alloc_new (w.alloc (.cells #[.pointer (some ⟨p, 0, none⟩)] 22)) (.cells #[.int .i64 f] 3); rw [World.size_alloc] at this; rw [cell_of_row _ _ _ _ _ _ this]; rfl⟩
  clear h
  generalize frshE s f = V at HA ⊢
  go_enter Tryz.func27, Tryz.ntmps27
  go_upto_region 1 with fail
  generalize (w.alloc _).alloc _ = w1 at HB HD ⊢
  generalize hE : w.heap.size + 1 = E at HD ⊢
  generalize hD : w.heap.size = D at HD ⊢
  have HDm := HD.out.m
  have HDf := HD.out.f
  go_wp2_with (first
    | (go_at_call 83; refine (HA.out _ D E _ ?hb ?hd ?hr).mono ?_; (case hb => exact bal HB.out _); (case hd => exact HD.out.on (bal (Below.refl _ _) _)); (case hr => exact ⟨by rw [cell_of_row _ _ _ _ _ _ (heap_alloc_new _ _)]; rfl, by rw [cell_of_row _ _ _ _ _ _ (heap_alloc_new _ _)]; rfl, by rw [cell_of_row _ _ _ _ _ _ (heap_alloc_new _ _)]; rfl⟩); rintro e w2 ⟨rfl, hb⟩; have H2 := fhide hb; clear hb)
    | fail)
  go_ret
  exact ⟨rfl, H2.out⟩
end
end Go.Proofs.YtcgekcjnaadcmaaGreatDoor.Pfind
