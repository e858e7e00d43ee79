/- build's isDone in a machine, for each kind of object (written by mk_gu.py). -/
import Derived.Test.YtcgekcjnaadcmaaGreatDoorGonF
import Derived.Test.YtcgekcjnaadcmaaGreatDoorGonC
import Derived.Deep.RegionHeld3
namespace Go.Proofs.YtcgekcjnaadcmaaGreatDoor.Pbuild
open Go.Proofs.YtcgekcjnaadcmaaGreatDoor.Pbase Go.Proofs.YtcgekcjnaadcmaaGreatDoor.Pchold Go.Proofs.YtcgekcjnaadcmaaGreatDoor.Pfind Go.Proofs.YtcgekcjnaadcmaaGreatDoor.Play Go.Proofs.YtcgekcjnaadcmaaGreatDoor.Pmem Go.Proofs.YtcgekcjnaadcmaaGreatDoor.Pmst Go.Proofs.YtcgekcjnaadcmaaGreatDoor.Ppmach Go.Proofs.YtcgekcjnaadcmaaGreatDoor.Ptint
open Go.RowKit Go.Shelf
set_option linter.unusedVariables false
set_option linter.unusedSimpArgs false

section
variable {w0 w : World} {p : Nat} {o : Nat → Nat} {P : Pq} {s : St}
set_option maxRecDepth 100000 in
theorem done5 (f : Int) (h : Fx w0 w p o P s) : Calls Tryz.prog 50 #[.pointer (some ⟨p, 0, none⟩), .int .i64 f, .int .i64 5] w fun e w' => e = .returned (.tuple #[.func (.func 47) #[] #[], .bool true]) ∧ Lv w0 w w' p o P s := by
  have H0 := ghide (lv_refl h)
  clear h
  go_enter Tryz.func50, Tryz.ntmps50
  go_wp2_with fail
  go_ret2
  exact ⟨rfl, H0.out⟩
set_option maxRecDepth 100000 in
theorem done1 (f : Int) (h : Fx w0 w p o P s) (hT : Tz w0) (he : Pslot.aE s.N s.M f = 0) (hn : Pslot.uN s.N s.M f = 0) : Calls Tryz.prog 50 #[.pointer (some ⟨p, 0, none⟩), .int .i64 f, .int .i64 1] w fun e w' => e = .returned (.tuple #[.func (.func 47) #[] #[], .bool true]) ∧ Lv w0 w w' p o P s := by
  have H0 := ghide (lv_refl h)
  have HMm : Hid (∀ wx, Lv w0 w wx p o P s → Calls Tryz.prog 15 #[.pointer (some ⟨p, 0, none⟩)] wx fun e w' => e = .returned (.pointer (some ⟨P.pm, 0, none⟩)) ∧ Lv w0 w w' p o P s) := fun wx hx => (gx_mem hx.fx).mono (by rintro e w' ⟨h1, h2⟩; exact ⟨h1, hx.then h2⟩)
  have HU : Hid (∀ wx, Lv w0 w wx p o P s → Calls Tryz.prog 120 #[.pointer (some ⟨P.pm, 0, none⟩), .int .i64 f] wx fun e w' => e = .returned (.tuple #[.int .i64 0, .int .i64 0]) ∧ Lv w0 w w' p o P s) := fun wx hx => (gx_sused f hT hx.fx).mono (by rintro e w' ⟨h1, h2⟩; rw [he, hn] at h1; exact ⟨h1, hx.then h2⟩)
  clear h hT he hn
  go_enter Tryz.func50, Tryz.ntmps50
  go_wp2_with (first
    | (go_at_call 15; refine (HMm.out _ H0.out).mono ?_; rintro e w1 ⟨rfl, hl⟩; have H1 := ghide hl; clear hl)
    | (go_at_call 120; refine (HU.out _ H1.out).mono ?_; rintro e w2 ⟨rfl, hl⟩; have H2 := ghide hl; clear hl)
    | fail)
  go_ret2
  exact ⟨rfl, H2.out⟩
set_option maxRecDepth 100000 in
theorem done2 (f : Int) (h : Fx w0 w p o P s) (hT : Tz w0) (he : Pqpgtbl.usE s.N s.M f = 0) (hn : Pqpgtbl.usN s.N s.M f = 0) : Calls Tryz.prog 50 #[.pointer (some ⟨p, 0, none⟩), .int .i64 f, .int .i64 2] w fun e w' => e = .returned (.tuple #[.func (.func 47) #[] #[], .bool true]) ∧ Lv w0 w w' p o P s := by
  have H0 := ghide (lv_refl h)
  have HMm : Hid (∀ wx, Lv w0 w wx p o P s → Calls Tryz.prog 15 #[.pointer (some ⟨p, 0, none⟩)] wx fun e w' => e = .returned (.pointer (some ⟨P.pm, 0, none⟩)) ∧ Lv w0 w w' p o P s) := fun wx hx => (gx_mem hx.fx).mono (by rintro e w' ⟨h1, h2⟩; exact ⟨h1, hx.then h2⟩)
  have HU : Hid (∀ wx, Lv w0 w wx p o P s → Calls Tryz.prog 121 #[.pointer (some ⟨P.pm, 0, none⟩), .int .i64 f] wx fun e w' => e = .returned (.tuple #[.int .i64 0, .int .i64 0]) ∧ Lv w0 w w' p o P s) := fun wx hx => (gx_pused f hT hx.fx).mono (by rintro e w' ⟨h1, h2⟩; rw [he, hn] at h1; exact ⟨h1, hx.then h2⟩)
  clear h hT he hn
  go_enter Tryz.func50, Tryz.ntmps50
  go_wp2_with (first
    | (go_at_call 15; refine (HMm.out _ H0.out).mono ?_; rintro e w1 ⟨rfl, hl⟩; have H1 := ghide hl; clear hl)
    | (go_at_call 121; refine (HU.out _ H1.out).mono ?_; rintro e w2 ⟨rfl, hl⟩; have H2 := ghide hl; clear hl)
    | fail)
  go_ret2
  exact ⟨rfl, H2.out⟩
set_option maxRecDepth 100000 in
set_option maxHeartbeats 1000000 in
theorem done3 (f : Int) (h : Fx w0 w p o P s) (hT : Tz w0) : Calls Tryz.prog 50 #[.pointer (some ⟨p, 0, none⟩), .int .i64 f, .int .i64 3] w fun e w' => e = .returned (.tuple #[.func (.func 47) #[] #[], .bool (fcE s f == 7)]) ∧ Lv w0 w w' p o P s := by
  have H0 := ghide (lv_refl h)
  have HU : Hid (Calls Tryz.prog 40 #[.pointer (some ⟨p, 0, none⟩), .int .i64 f] w fun e w' => e = .returned (.tuple #[.agg #[.int .i64 (fcC s f).tb, .int .i64 (fcC s f).pg, .int .i64 (fcC s f).l, .int .i64 (fcC s f).e, .int .i64 (fcC s f).fa, .int .i64 (fcC s f).wh], .int .i64 (fcE s f)]) ∧ Lv w0 w w' p o P s) := (fcomp_any f hT h).mono (by rintro e w' ⟨h1, h2⟩; exact ⟨h1, lv_below h h2⟩)
  clear h hT
  generalize fcE s f = E at HU ⊢
  generalize (fcC s f).tb = I0 at HU
  generalize (fcC s f).pg = I1 at HU
  generalize (fcC s f).l = I2 at HU
  generalize (fcC s f).e = I3 at HU
  generalize (fcC s f).fa = I4 at HU
  generalize (fcC s f).wh = I5 at HU
  go_enter Tryz.func50, Tryz.ntmps50
  go_wp2_with (first
    | (go_at_call 40; refine HU.out.mono ?_; rintro e w2 ⟨rfl, hl⟩; have H2 := ghide hl; clear hl)
    | fail)
  go_ret2
  exact ⟨rfl, H2.out.on (bal (Below.refl _ _) _)⟩
set_option maxRecDepth 100000 in
set_option maxHeartbeats 4000000 in
theorem done4 (f : Int) (t : Pthd.Th) (b : Bool) (h : Fx w0 w p o P s) (he : Pthd.gtE s.N s.M f = 0) (ht : Pthd.gtT s.N s.M f = t) (hb : (t.st == 3) = b) : Calls Tryz.prog 50 #[.pointer (some ⟨p, 0, none⟩), .int .i64 f, .int .i64 4] w fun e w' => ∃ A, e = .returned (.tuple #[.func (.func 105) #[] #[.pointer (some ⟨A, 0, none⟩)], .bool b]) ∧ Lv w0 w w' p o P s ∧ w.heap.size ≤ A ∧ RowB w' A 78 #[.int .i64 t.st, .int .i64 t.co, .int .i64 t.tc, .int .i64 t.rc, .int .i64 t.de] := by
  have H0 := ghide (lv_refl h)
  have HMm : Hid (∀ wx, Lv w0 w wx p o P s → Calls Tryz.prog 15 #[.pointer (some ⟨p, 0, none⟩)] wx fun e w' => e = .returned (.pointer (some ⟨P.pm, 0, none⟩)) ∧ Lv w0 w w' p o P s) := fun wx hx => (gx_mem hx.fx).mono (by rintro e w' ⟨h1, h2⟩; exact ⟨h1, hx.then h2⟩)
  have HU : Hid (∀ wx, Lv w0 w wx p o P s → Calls Tryz.prog 54 #[.pointer (some ⟨P.pm, 0, none⟩), .int .i64 f] wx fun e w' => e = .returned (.tuple #[.agg #[.int .i64 t.st, .int .i64 t.co, .int .i64 t.tc, .int .i64 t.rc, .int .i64 t.de], .int .i64 0]) ∧ Lv w0 w w' p o P s) := fun wx hx => (gx_thget f hx.fx).mono (by rintro e w' ⟨h1, h2⟩; rw [he, ht] at h1; exact ⟨h1, hx.then h2⟩)
  have HO : Hid (∀ wx, Calls Tryz.prog 41 #[.agg #[.int .i64 t.st, .int .i64 t.co, .int .i64 t.tc, .int .i64 t.rc, .int .i64 t.de]] wx fun x w' => x = .returned (.func (.func 105) #[] #[.pointer (some ⟨wx.heap.size, 0, none⟩)]) ∧ RowB w' wx.heap.size 78 #[.int .i64 t.st, .int .i64 t.co, .int .i64 t.tc, .int .i64 t.rc, .int .i64 t.de] ∧ Below wx.heap.size wx w') := fun wx => ofT_any t wx
  clear h he ht
  generalize t.st = I0 at HU HO hb ⊢
  generalize t.co = I1 at HU HO ⊢
  generalize t.tc = I2 at HU HO ⊢
  generalize t.rc = I3 at HU HO ⊢
  generalize t.de = I4 at HU HO ⊢
  go_enter Tryz.func50, Tryz.ntmps50
  go_upto_region 13 with (first
    | (go_at_call 15; refine (HMm.out _ H0.out).mono ?_; rintro e w1 ⟨rfl, hl⟩; have H1 := ghide hl; clear hl)
    | (go_at_call 54; refine (HU.out _ H1.out).mono ?_; rintro e w2 ⟨rfl, hl⟩; have H2 := ghide hl; clear hl)
    | fail)
  have HX := ghide (H2.out.on (bal (Below.refl _ _) (.cells #[.int .i64 I0, .int .i64 I1, .int .i64 I2, .int .i64 I3, .int .i64 I4] 78)))
  have hx : Hid (RowB (w2.alloc (.cells #[.int .i64 I0, .int .i64 I1, .int .i64 I2, .int .i64 I3, .int .i64 I4] 78)) w2.heap.size 78 #[.int .i64 I0, .int .i64 I1, .int .i64 I2, .int .i64 I3, .int .i64 I4]) := ghide (heap_alloc_new w2 _)
  clear H2 H1
  generalize w2.alloc _ = X at HX hx ⊢
  generalize w2.heap.size = D at hx ⊢
  have HXd : Hid (Lv w0 w X.drew p o P s) := HX.out.on (Below.refl _ _).drew
  have hxd : Hid (RowB X.drew D 78 #[.int .i64 I0, .int .i64 I1, .int .i64 I2, .int .i64 I3, .int .i64 I4]) := hx.out
  have hkS : ∀ x, RowB x D 78 #[.int .i64 I0, .int .i64 I1, .int .i64 I2, .int .i64 I3, .int .i64 I4] → x.cell? ⟨D, 0, none⟩ = some (.int .i64 I0) ∧ x.cell? ⟨D, 1, none⟩ = some (.int .i64 I1) ∧ x.cell? ⟨D, 2, none⟩ = some (.int .i64 I2) ∧ x.cell? ⟨D, 3, none⟩ = some (.int .i64 I3) ∧ x.cell? ⟨D, 4, none⟩ = some (.int .i64 I4) := fun x hx => ⟨hx.cell 0 rfl, hx.cell 1 rfl, hx.cell 2 rfl, hx.cell 3 rfl, hx.cell 4 rfl⟩
  have HkS := ghide hkS
  clear hkS
  have kS0 := HkS.out _ hxd.out
  go_region_held3 (fun x => x.cell? ⟨D, 0, none⟩ = some (.int .i64 I0) ∧ x.cell? ⟨D, 1, none⟩ = some (.int .i64 I1) ∧ x.cell? ⟨D, 2, none⟩ = some (.int .i64 I2) ∧ x.cell? ⟨D, 3, none⟩ = some (.int .i64 I3) ∧ x.cell? ⟨D, 4, none⟩ = some (.int .i64 I4)) (first | with_reducible assumption | with_reducible exact kS0 | with_reducible exact kS1 | go_keep) (first
    | (go_at_call 41; refine (HO.out _).mono ?_; rintro e w3 ⟨rfl, hr, hl⟩; have H3 := ghide (HXd.out.on hl); have hr3 := ghide hr; have kS1 := HkS.out _ (RowB.on hxd.out hl); clear hl hr)
    | fail)
  all_goals
    go_wp2_with fail
    go_ret2
    refine ⟨_, by first | rw [hb] | rfl, H3.out, HXd.out.size, hr3.out⟩
set_option maxRecDepth 100000 in
set_option maxHeartbeats 4000000 in
theorem done6 (f : Int) (r : Pqrcv.Rv) (h : Fx w0 w p o P s) (hT : Tz w0) (he : Pqrcv.vgE s.N s.M f = 0) (ht : Pqrcv.vgX s.N s.M f = r) (hw : r.wa = false) (hh : Phw.hsN s.H f = 0) : Calls Tryz.prog 50 #[.pointer (some ⟨p, 0, none⟩), .int .i64 f, .int .i64 6] w fun e w' => ∃ A, e = .returned (.tuple #[.func (.func 111) #[] #[.pointer (some ⟨A, 0, none⟩)], .bool true]) ∧ Lv w0 w w' p o P s ∧ w.heap.size ≤ A ∧ RowB w' A 40 #[.int .i64 r.th, .int .i64 r.pa, .int .i64 r.co, .bool r.wa, .int .i64 r.lo] := by
  have H0 := ghide (lv_refl h)
  have HMm : Hid (∀ wx, Lv w0 w wx p o P s → Calls Tryz.prog 15 #[.pointer (some ⟨p, 0, none⟩)] wx fun e w' => e = .returned (.pointer (some ⟨P.pm, 0, none⟩)) ∧ Lv w0 w w' p o P s) := fun wx hx => (gx_mem hx.fx).mono (by rintro e w' ⟨h1, h2⟩; exact ⟨h1, hx.then h2⟩)
  have HU : Hid (∀ wx, Lv w0 w wx p o P s → Calls Tryz.prog 16 #[.pointer (some ⟨P.pm, 0, none⟩), .int .i64 f] wx fun e w' => e = .returned (.tuple #[.agg #[.int .i64 r.th, .int .i64 r.pa, .int .i64 r.co, .bool r.wa, .int .i64 r.lo], .int .i64 0]) ∧ Lv w0 w w' p o P s) := fun wx hx => (gx_rvget f hT hx.fx).mono (by rintro e w' ⟨h1, h2⟩; rw [he, ht] at h1; exact ⟨h1, hx.then h2⟩)
  have HO : Hid (∀ wx, Calls Tryz.prog 44 #[.agg #[.int .i64 r.th, .int .i64 r.pa, .int .i64 r.co, .bool r.wa, .int .i64 r.lo]] wx fun x w' => x = .returned (.func (.func 111) #[] #[.pointer (some ⟨wx.heap.size, 0, none⟩)]) ∧ RowB w' wx.heap.size 40 #[.int .i64 r.th, .int .i64 r.pa, .int .i64 r.co, .bool r.wa, .int .i64 r.lo] ∧ Below wx.heap.size wx w') := fun wx => ofR_any r wx
  have HL : Hid (∀ wx, Lv w0 w wx p o P s → Calls Tryz.prog 122 #[.pointer (some ⟨p, 0, none⟩)] wx fun e w' => e = .returned (.pointer (some ⟨P.ph, 0, none⟩)) ∧ Below wx.heap.size wx w') := fun wx hx => plines_any hx.fx.x.v hx.fx.ws
  have HH : Hid (∀ wx, Lv w0 w wx p o P s → Calls Tryz.prog 123 #[.pointer (some ⟨P.ph, 0, none⟩), .int .i64 f] wx fun e w' => e = .returned (.int .i64 0) ∧ Below wx.heap.size wx w') := fun wx hx => (Phw.has_any wx P.ph P.bh s.H f hx.fx.x.v.lines hx.fx.x.v.gd).mono (by rintro e w' ⟨h1, h2⟩; rw [hh] at h1; exact ⟨h1, h2⟩)
  rw [hw] at HU HO ⊢
  clear h he ht hT hh hw
  generalize r.th = I0 at HU HO ⊢
  generalize r.pa = I1 at HU HO ⊢
  generalize r.co = I2 at HU HO ⊢
  generalize r.lo = I4 at HU HO ⊢
  go_enter Tryz.func50, Tryz.ntmps50
  go_upto_region 16 with (first
    | (go_at_call 15; refine (HMm.out _ H0.out).mono ?_; rintro e w1 ⟨rfl, hl⟩; have H1 := ghide hl; clear hl)
    | (go_at_call 16; refine (HU.out _ H1.out).mono ?_; rintro e w2 ⟨rfl, hl⟩; have H2 := ghide hl; clear hl)
    | fail)
  have HX := ghide (H2.out.on (bal (Below.refl _ _) (.cells #[.int .i64 I0, .int .i64 I1, .int .i64 I2, .bool false, .int .i64 I4] 40)))
  have hx : Hid (RowB (w2.alloc (.cells #[.int .i64 I0, .int .i64 I1, .int .i64 I2, .bool false, .int .i64 I4] 40)) w2.heap.size 40 #[.int .i64 I0, .int .i64 I1, .int .i64 I2, .bool false, .int .i64 I4]) := ghide (heap_alloc_new w2 _)
  clear H2 H1
  generalize w2.alloc _ = X at HX hx ⊢
  generalize w2.heap.size = D at hx ⊢
  have x0 := hx.out.cell 0 rfl
  have x1 := hx.out.cell 1 rfl
  have x2 := hx.out.cell 2 rfl
  have x3 := hx.out.cell 3 rfl
  have x4 := hx.out.cell 4 rfl
  go_wp2_with (first
    | (go_at_call 44; refine (HO.out _).mono ?_; rintro e w3 ⟨rfl, hr, hl⟩; have H3 := ghide (HX.out.on hl); have hr3 := ghide hr; have y3 := (RowB.on hx.out hl).cell 3 rfl; clear hl hr)
    | (go_at_call 122; refine (HL.out _ H3.out).mono ?_; rintro e w4 ⟨rfl, hl⟩; have H4 := ghide (H3.out.on hl); have hr4 := ghide (RowB.on hr3.out hl); clear hl)
    | (go_at_call 123; refine (HH.out _ H4.out).mono ?_; rintro e w5 ⟨rfl, hl⟩; have H5 := ghide (H4.out.on hl); have hr5 := ghide (RowB.on hr4.out hl); clear hl)
    | fail)
  go_ret2
  exact ⟨_, rfl, H5.out, HX.out.size, hr5.out⟩
end
end Go.Proofs.YtcgekcjnaadcmaaGreatDoor.Pbuild
