/- What each call of the parts and of the object packages answers in a machine, and what it leaves of it (written by mk_ga.py). -/
import Derived.Test.YtcgekcjnaadcmaaGreatDoorFndB
import Derived.Test.YtcgekcjnaadcmaaGreatDoorBunPmach
import Derived.Test.YtcgekcjnaadcmaaGreatDoorBunPhw
import Derived.Test.YtcgekcjnaadcmaaGreatDoorBunPlive
import Derived.Test.YtcgekcjnaadcmaaGreatDoorBunPtyp
import Derived.Test.YtcgekcjnaadcmaaGreatDoorGonI
import Derived.Test.YtcgekcjnaadcmaaGreatDoorBunQcomp
import Derived.Test.YtcgekcjnaadcmaaGreatDoorBunQthd
import Derived.Test.YtcgekcjnaadcmaaGreatDoorBunQstack
import Derived.Test.YtcgekcjnaadcmaaGreatDoorBunQtcap
import Derived.Test.YtcgekcjnaadcmaaGreatDoorBunQrcv
import Derived.Test.YtcgekcjnaadcmaaGreatDoorBunQslot
import Derived.Test.YtcgekcjnaadcmaaGreatDoorBunQpgtbl
namespace Go.Proofs.YtcgekcjnaadcmaaGreatDoor.Pbuild
open Go.Proofs.YtcgekcjnaadcmaaGreatDoor.Pbase Go.Proofs.YtcgekcjnaadcmaaGreatDoor.Pchold Go.Proofs.YtcgekcjnaadcmaaGreatDoor.Pfind Go.Proofs.YtcgekcjnaadcmaaGreatDoor.Play Go.Proofs.YtcgekcjnaadcmaaGreatDoor.Pmem Go.Proofs.YtcgekcjnaadcmaaGreatDoor.Pmst Go.Proofs.YtcgekcjnaadcmaaGreatDoor.Ppmach Go.Proofs.YtcgekcjnaadcmaaGreatDoor.Ptint
open Go.RowKit Go.Shelf
set_option linter.unusedVariables false
set_option linter.unusedSimpArgs false

theorem ghide {p : Prop} (h : p) : Hid p := h
/-- The seven tables. -/
structure Tz (w : World) : Prop where
  hd : Phead.TabW w
  cm : Pcomp.TabC w
  sk : Pstack.TabR w
  rv : Pqrcv.TabV w
  tm : Pcap.TabM w
  tw : Pcap.TabW w
  tp : Ppte.TabW w
/-- A call has left the machine so, and of all that was there has changed the machine's own blocks alone. -/
structure Lv (w0 w w' : World) (p : Nat) (o : Nat → Nat) (P : Pq) (s : St) : Prop where
  fx : Fx w0 w' p o P s
  k : Tint (PMine o) w w'
section
variable {w0 w w' w1 w2 : World} {p : Nat} {o : Nat → Nat} {P : Pq} {s s' : St}
theorem lv_refl (h : Fx w0 w p o P s) : Lv w0 w w p o P s := ⟨h, Tint.refl _ _⟩
theorem Lv.on (h : Lv w0 w w1 p o P s) (hB : Below w1.heap.size w1 w2) : Lv w0 w w2 p o P s := ⟨h.fx.on hB, h.k.on hB⟩
theorem Lv.then (h : Lv w0 w w1 p o P s) (g : Lv w0 w1 w2 p o P s') : Lv w0 w w2 p o P s' := ⟨g.fx, h.k.trans g.k⟩
theorem lv_below (h : Fx w0 w p o P s) (hB : Below w.heap.size w w') : Lv w0 w w' p o P s := ⟨h.on hB, Tint.of_below _ hB⟩
theorem lv_px (h : Fx w0 w p o P s) (hx : Px w w' p o P s') (hw : Pmst.Ws s') (hf : Fit s'.M) : Lv w0 w w' p o P s' := ⟨h.turn hx hw hf, hx.k⟩
theorem lv_words (h : Fx w0 w p o P s) {M : Nat → Nat → Int} (hm : MemIs w' P.pm P.bm s.N M) (hf : Fit M) (hB : But P.bm w w') : Lv w0 w w' p o P { s with M := M } := ⟨h.words hm hf hB, pwide 22 (by omega) (by omega) (tint_but h.x.v.om.2 hB)⟩
/-- What is made now is none of the machine's. -/
theorem fx_new (h : Fx w0 w p o P s) {B : Nat} (hB : w.heap.size ≤ B) : ¬ PMine o B := fun ⟨a, b⟩ => absurd (h.x.v.own B a b) (by omega)
theorem Lv.size (h : Lv w0 w w1 p o P s) : w.heap.size ≤ w1.heap.size := h.k.size
/-- A block of the caller's is left as it was. -/
theorem Lv.row (h : Lv w0 w w1 p o P s) {A : Nat} {t : TypeId} {cs : Array Value} (hr : RowB w A t cs) (hn : ¬ PMine o A) : RowB w1 A t cs := (h.k.block A hr.lt hn).trans hr
theorem ws_w (h : Pmst.Ws s) {M : Nat → Nat → Int} {T : Nat → Ptyp.FS} {L : Nat → Plive.LS} : Pmst.Ws { s with M := M, T := T, L := L } := ⟨h.n1, h.n64, h.c1, h.c4⟩
theorem gx_mem (h : Fx w0 w p o P s) : Calls Tryz.prog 15 #[.pointer (some ⟨p, 0, none⟩)] w fun e w' => e = .returned (.pointer (some ⟨P.pm, 0, none⟩)) ∧ Lv w0 w w' p o P s := (pmem_any h.x.v h.ws).mono (by rintro e w' ⟨h1, h2⟩; exact ⟨h1, lv_below h h2⟩)
theorem gx_typ (h : Fx w0 w p o P s) : Calls Tryz.prog 20 #[.pointer (some ⟨p, 0, none⟩)] w fun e w' => e = .returned (.pointer (some ⟨P.pt, 0, none⟩)) ∧ Lv w0 w w' p o P s := (ptyp_any h.x.v h.ws).mono (by rintro e w' ⟨h1, h2⟩; exact ⟨h1, lv_below h h2⟩)
theorem gx_live (h : Fx w0 w p o P s) : Calls Tryz.prog 35 #[.pointer (some ⟨p, 0, none⟩)] w fun e w' => e = .returned (.pointer (some ⟨P.pl, 0, none⟩)) ∧ Lv w0 w w' p o P s := (plive_any h.x.v h.ws).mono (by rintro e w' ⟨h1, h2⟩; exact ⟨h1, lv_below h h2⟩)
theorem gx_now (h : Fx w0 w p o P s) : Calls Tryz.prog 52 #[.pointer (some ⟨p, 0, none⟩)] w fun e w' => e = .returned (.int .i64 s.C.now) ∧ Lv w0 w w' p o P s := (pnow_any h.x.v h.ws).mono (by rintro e w' ⟨h1, h2⟩; exact ⟨h1, lv_below h h2⟩)
theorem gx_floors (h : Fx w0 w p o P s) : Calls Tryz.prog 34 #[.pointer (some ⟨p, 0, none⟩)] w fun e w' => e = .returned (.tuple #[.int .i64 (Pclock.floE s.n s.C), .int .i64 (Pclock.floF s.n s.C)]) ∧ Lv w0 w w' p o P s := (pfloors_any h.x.v h.ws).mono (by rintro e w' ⟨h1, h2⟩; exact ⟨h1, lv_below h h2⟩)
theorem gx_type (f : Int) (h : Fx w0 w p o P s) : Calls Tryz.prog 48 #[.pointer (some ⟨P.pt, 0, none⟩), .int .i64 f] w fun e w' => e = .returned (.int .i64 (Ptyp.toldA s.N s.T f).is) ∧ Lv w0 w w' p o P s := (Ptyp.type_any _ _ _ f _ w h.ws.n1 h.ws.n64 h.x.v.typ).mono (by rintro e w' ⟨h1, h2⟩; exact ⟨h1, lv_below h h2⟩)
theorem gx_hget (f : Int) (h : Fx w0 w p o P s) : Calls Tryz.prog 49 #[.pointer (some ⟨P.pm, 0, none⟩), .int .i64 f] w fun e w' => e = .returned (.tuple #[.agg #[.int .i64 (Phead.ghK s.N s.M f), .int .i64 (Phead.ghL s.N s.M f), .bool (Phead.ghZ s.N s.M f), .int .i64 (Phead.ghT s.N s.M f)], .int .i64 (Phead.ghE s.N s.M f)]) ∧ Lv w0 w w' p o P s := (Phead.hget_any _ _ _ f _ w h.ws.n1 h.ws.n64 h.x.v.mem h.hd h.fit).mono (by rintro e w' ⟨h1, h2⟩; exact ⟨h1, lv_below h h2⟩)
theorem gx_ref (f : Int) (h : Fx w0 w p o P s) : Calls Tryz.prog 96 #[.pointer (some ⟨P.pt, 0, none⟩), .int .i64 f] w fun e w' => e = .returned (.int .i64 (Ptyp.errA s.N s.T f Ptyp.hRf)) ∧ Lv w0 w w' p o P { s with T := Ptyp.mapA s.N s.T f Ptyp.gRf } := by
  refine (Ptyp.ref_any _ _ _ f s.T w h.ws.n1 h.ws.n64 h.x.v.typ).mono ?_
  rintro x w' ⟨h1, rfl⟩
  have k := tint_row (w := w) h.x.v.ot.2 (Ptyp.cellsT s.N (Ptyp.mapA s.N s.T f Ptyp.gRf))
  exact ⟨h1, lv_px h ⟨(h.x.v.left k).turnT (h.x.v.typ.set (Ptyp.ok_map h.x.v.typ.ok _ f Ptyp.ok_rf)), pwide 24 (by omega) (by omega) k⟩ (ws_w h.ws) h.fit⟩
theorem gx_unref (f now : Int) (h : Fx w0 w p o P s) : Calls Tryz.prog 115 #[.pointer (some ⟨P.pt, 0, none⟩), .int .i64 f, .int .i64 now] w fun e w' => e = .returned (.int .i64 (Ptyp.errA s.N s.T f Ptyp.hUr)) ∧ Lv w0 w w' p o P { s with T := Ptyp.mapA s.N s.T f (Ptyp.gUr now) } := by
  refine (Ptyp.unref_any _ _ _ f now s.T w h.ws.n1 h.ws.n64 h.x.v.typ).mono ?_
  rintro x w' ⟨h1, rfl⟩
  have k := tint_row (w := w) h.x.v.ot.2 (Ptyp.cellsT s.N (Ptyp.mapA s.N s.T f (Ptyp.gUr now)))
  exact ⟨h1, lv_px h ⟨(h.x.v.left k).turnT (h.x.v.typ.set (Ptyp.ok_map h.x.v.typ.ok _ f (Ptyp.ok_ur now))), pwide 24 (by omega) (by omega) k⟩ (ws_w h.ws) h.fit⟩
theorem gx_untype (f now : Int) (pg : Bool) (h : Fx w0 w p o P s) : Calls Tryz.prog 51 #[.pointer (some ⟨P.pt, 0, none⟩), .int .i64 f, .int .i64 now, .bool pg] w fun e w' => e = .returned (.int .i64 (Ptyp.errA s.N s.T f Ptyp.hUt)) ∧ Lv w0 w w' p o P { s with T := Ptyp.mapA s.N s.T f (Ptyp.gUt now pg) } := by
  refine (Ptyp.untype_any _ _ _ f now pg s.T w h.ws.n1 h.ws.n64 h.x.v.typ).mono ?_
  rintro x w' ⟨h1, rfl⟩
  have k := tint_row (w := w) h.x.v.ot.2 (Ptyp.cellsT s.N (Ptyp.mapA s.N s.T f (Ptyp.gUt now pg)))
  exact ⟨h1, lv_px h ⟨(h.x.v.left k).turnT (h.x.v.typ.set (Ptyp.ok_map h.x.v.typ.ok _ f (Ptyp.ok_ut now pg))), pwide 24 (by omega) (by omega) k⟩ (ws_w h.ws) h.fit⟩
theorem gx_take (fl : Int) (h : Fx w0 w p o P s) : Calls Tryz.prog 36 #[.pointer (some ⟨P.pl, 0, none⟩), .int .i64 fl] w fun e w' => e = .returned (.tuple #[.int .i64 (Plive.tkI 64 s.L fl), .int .i64 (Plive.tkE 64 s.L fl), .int .i64 (Plive.tkR 64 s.L fl)]) ∧ Lv w0 w w' p o P { s with L := Plive.tkS 64 s.L fl } := by
  refine (Plive.take_any _ _ 64 s.L fl w (by omega) (by omega) h.x.v.live).mono ?_
  rintro x w' ⟨h1, h2⟩
  have h3 := h2.tbl h.x.v.live (Plive.ok_tk h.x.v.live.ok 64 fl)
  obtain ⟨w1, hB, rfl⟩ := h2
  have k : Tint (fun i => o i = 25) w (w1.setRow P.rl (Plive.cellsT 64 (Plive.tkS 64 s.L fl))) := (Tint.of_below _ hB).trans (tint_row (w := w1) h.x.v.ol.2 _)
  exact ⟨h1, lv_px h ⟨(h.x.v.left k).turnL h3, pwide 25 (by omega) (by omega) k⟩ (ws_w h.ws) h.fit⟩
theorem gx_kill (id ep now : Int) (h : Fx w0 w p o P s) : Calls Tryz.prog 53 #[.pointer (some ⟨P.pl, 0, none⟩), .int .i64 id, .int .i64 ep, .int .i64 now] w fun e w' => e = .returned (.int .i64 (Plive.klR 64 s.L id ep)) ∧ Lv w0 w w' p o P { s with L := Plive.klS 64 s.L id ep now } := by
  refine (Plive.kill_any _ _ 64 s.L id ep now w (by omega) (by omega) h.x.v.live).mono ?_
  rintro x w' ⟨h1, h2⟩
  have h3 := h2.tbl h.x.v.live (Plive.ok_kl h.x.v.live.ok 64 id ep now)
  obtain ⟨w1, hB, rfl⟩ := h2
  have k : Tint (fun i => o i = 25) w (w1.setRow P.rl (Plive.cellsT 64 (Plive.klS 64 s.L id ep now))) := (Tint.of_below _ hB).trans (tint_row (w := w1) h.x.v.ol.2 _)
  exact ⟨h1, lv_px h ⟨(h.x.v.left k).turnL h3, pwide 25 (by omega) (by omega) k⟩ (ws_w h.ws) h.fit⟩
theorem gx_retype (f tt : Int) (h : Fx w0 w p o P s) : Calls Tryz.prog 5 #[.pointer (some ⟨p, 0, none⟩), .int .i64 f, .int .i64 tt] w fun x w' => x = .returned (.int .i64 (rtE s f tt)) ∧ Lv w0 w w' p o P { s with T := rtT s f tt, M := rtM s f tt } := by
  refine (pretype_any f tt h.x.v h.ws).mono ?_
  rintro e w' ⟨h1, h2⟩
  refine ⟨h1, lv_px h h2 (ws_w h.ws) ?_⟩
  show Fit (rtM s f tt)
  unfold rtM
  by_cases e : rtX s f tt = 0
  · rw [if_pos e]; exact h.fit.cl _ _
  · rw [if_neg e]; exact h.fit
theorem gx_hmake (f k l : Int) (z : Bool) (t : Int) (h : Fx w0 w p o P s) : Calls Tryz.prog 90 #[.pointer (some ⟨P.pm, 0, none⟩), .int .i64 f, .agg #[.int .i64 k, .int .i64 l, .bool z, .int .i64 t]] w fun e w' => e = .returned (.int .i64 (Phead.errP s.N f k l z t)) ∧ Lv w0 w w' p o P { s with M := Phead.mkM s.N s.M f k l z t } :=
  (Phead.hmake_any _ _ _ f k l z t _ w h.ws.n1 h.ws.n64 h.x.v.mem h.hd).mono (by rintro e w' ⟨h1, h2, h3⟩; exact ⟨h1, lv_words h h2 (Phead.fit_mk h.fit _ f k l z t) h3⟩)
set_option maxRecDepth 100000 in
theorem gx_ctmake (f l : Int) (h : Fx w0 w p o P s) : Calls Tryz.prog 28 #[.pointer (some ⟨P.pm, 0, none⟩), .int .i64 f, .int .i64 l] w fun e w' => e = .returned (.int .i64 (Phead.errP s.N f 1 l false 0)) ∧ Lv w0 w w' p o P { s with M := Phead.mkM s.N s.M f 1 l false 0 } := by
  have HM := ghide (gx_hmake f 1 l false 0 h)
  clear h
  go_enter Tryz.func28, Tryz.ntmps28
  go_wp2_with (first
    | (go_at_call 90; refine HM.out.mono ?_; rintro e1 w1 ⟨rfl, hb⟩; have H1 := ghide hb; clear hb)
    | fail)
  go_ret
  exact ⟨rfl, H1.out⟩
set_option maxRecDepth 100000 in
theorem gx_pgmake (f l : Int) (h : Fx w0 w p o P s) : Calls Tryz.prog 29 #[.pointer (some ⟨P.pm, 0, none⟩), .int .i64 f, .int .i64 l] w fun e w' => e = .returned (.int .i64 (Phead.errP s.N f 2 l false 0)) ∧ Lv w0 w w' p o P { s with M := Phead.mkM s.N s.M f 2 l false 0 } := by
  have HM := ghide (gx_hmake f 2 l false 0 h)
  clear h
  go_enter Tryz.func29, Tryz.ntmps29
  go_wp2_with (first
    | (go_at_call 90; refine HM.out.mono ?_; rintro e1 w1 ⟨rfl, hb⟩; have H1 := ghide hb; clear hb)
    | fail)
  go_ret
  exact ⟨rfl, H1.out⟩
theorem fx_mxC (h : Fx w0 w p o P s) (hT : Tz w0) : Pcomp.Mx w P.pm P.bm s.N s.M := ⟨h.x.v.mem, ⟨h.hd, hT.cm.on h.below⟩, h.fit, h.ws.n1, h.ws.n64⟩
theorem fx_mxT (h : Fx w0 w p o P s) : Pthd.Mx w P.pm P.bm s.N s.M := ⟨h.x.v.mem, h.hd, h.fit, h.ws.n1, h.ws.n64⟩
theorem fx_mxS (h : Fx w0 w p o P s) (hT : Tz w0) : Pstack.Sx w P.pm P.bm s.N s.M := ⟨(fx_mxT h), hT.sk.on h.below⟩
theorem fx_mxB (h : Fx w0 w p o P s) : Ptcap.Mx w P.pm P.bm s.N s.M := ⟨h.x.v.mem, h.hd, h.fit, h.ws.n1, h.ws.n64⟩
theorem fx_mxR (h : Fx w0 w p o P s) (hT : Tz w0) : Pqrcv.Mv w P.pm P.bm s.N s.M := ⟨⟨h.x.v.mem, h.hd, h.fit, h.ws.n1, h.ws.n64⟩, hT.rv.on h.below⟩
theorem fx_mxL (h : Fx w0 w p o P s) (hT : Tz w0) : Pslot.Mt w P.pm P.bm s.N s.M := ⟨h.x.v.mem, hT.tm.on h.below, hT.tw.on h.below, h.fit, h.ws.n1, h.ws.n64⟩
theorem fx_mxP (h : Fx w0 w p o P s) (hT : Tz w0) : Pqpgtbl.Mx w P.pm P.bm s.N s.M := ⟨h.x.v.mem, ⟨h.hd, hT.tp.on h.below⟩, h.fit, h.ws.n1, h.ws.n64⟩
theorem gx_comake (f : Int) (c : Pcomp.Cp) (hc : Pcomp.Fi c) (hT : Tz w0) (h : Fx w0 w p o P s) : Calls Tryz.prog 38 #[.pointer (some ⟨P.pm, 0, none⟩), .int .i64 f, .agg #[.int .i64 c.tb, .int .i64 c.pg, .int .i64 c.l, .int .i64 c.e, .int .i64 c.fa, .int .i64 c.wh]] w fun e w' => e = .returned (.int .i64 (Pcomp.mkE s.N f c)) ∧ Lv w0 w w' p o P { s with M := Pcomp.mkM s.N s.M f c } := (Pcomp.make_any _ _ _ f c _ w (fx_mxC h hT) hc).mono (by rintro e w' ⟨h1, h2, h3⟩; exact ⟨h1, lv_words h h2.mem h2.fit h3⟩)
theorem gx_thmake (f : Int) (c : Pthd.Th) (hc : Pthd.Fi c) (h : Fx w0 w p o P s) : Calls Tryz.prog 42 #[.pointer (some ⟨P.pm, 0, none⟩), .int .i64 f, .agg #[.int .i64 c.st, .int .i64 c.co, .int .i64 c.tc, .int .i64 c.rc, .int .i64 c.de]] w fun e w' => e = .returned (.int .i64 (Pthd.mkE s.N f c)) ∧ Lv w0 w w' p o P { s with M := Pthd.mkM s.N s.M f c } := (Pthd.make_any _ _ _ f c _ w (fx_mxT h) hc).mono (by rintro e w' ⟨h1, h2, h3⟩; exact ⟨h1, lv_words h h2.mem h2.fit h3⟩)
theorem gx_tcmake (f : Int) (c : Ptcap.Bd) (hc : Ptcap.Fb c) (h : Fx w0 w p o P s) : Calls Tryz.prog 39 #[.pointer (some ⟨P.pm, 0, none⟩), .int .i64 f, .agg #[.bool c.inf, .int .i64 c.lf, .int .i64 c.pr]] w fun e w' => e = .returned (.int .i64 (Ptcap.mkE s.N f c)) ∧ Lv w0 w w' p o P { s with M := Ptcap.mkM s.N s.M f c } := (Ptcap.make_any _ _ _ f c _ w (fx_mxB h) hc).mono (by rintro e w' ⟨h1, h2, h3⟩; exact ⟨h1, lv_words h h2.mem h2.fit h3⟩)
theorem gx_rvmake (f : Int) (c : Pqrcv.Rv) (hc : Pqrcv.Fv c) (hT : Tz w0) (h : Fx w0 w p o P s) : Calls Tryz.prog 45 #[.pointer (some ⟨P.pm, 0, none⟩), .int .i64 f, .agg #[.int .i64 c.th, .int .i64 c.pa, .int .i64 c.co, .bool c.wa, .int .i64 c.lo]] w fun e w' => e = .returned (.int .i64 (Pqrcv.vmE s.N f c)) ∧ Lv w0 w w' p o P { s with M := Pqrcv.vmM s.N s.M f c } := (Pqrcv.make_any _ _ _ f c _ w (fx_mxR h hT) hc).mono (by rintro e w' ⟨h1, h2, h3⟩; exact ⟨h1, lv_words h h2.mx.mem h2.mx.fit h3⟩)
theorem gx_state (f v : Int) (hc : In64 v) (h : Fx w0 w p o P s) : Calls Tryz.prog 14 #[.pointer (some ⟨P.pm, 0, none⟩), .int .i64 f, .int .i64 v] w fun e w' => e = .returned (.int .i64 (Pthd.stE s.N s.M f v)) ∧ Lv w0 w w' p o P { s with M := Pthd.stM s.N s.M f v } := (Pthd.state_any _ _ _ f v _ w (fx_mxT h) hc).mono (by rintro e w' ⟨h1, h2, h3⟩; exact ⟨h1, lv_words h h2.mem h2.fit h3⟩)
theorem gx_push (f : Int) (x : Pstack.Rc) (hT : Tz w0) (h : Fx w0 w p o P s) : Calls Tryz.prog 43 #[.pointer (some ⟨P.pm, 0, none⟩), .int .i64 f, .agg #[.int .i64 x.co, .int .i64 x.tb, .int .i64 x.pg, .int .i64 x.l, .int .i64 x.e, .int .i64 x.ip]] w fun e w' => e = .returned (.int .i64 (Pstack.psE s.N s.M f x)) ∧ Lv w0 w w' p o P { s with M := Pstack.psM s.N s.M f x } := (Pstack.push_any _ _ _ f x _ w (fx_mxS h hT)).mono (by rintro e w' ⟨h1, h2, h3⟩; exact ⟨h1, lv_words h h2.mx.mem h2.mx.fit h3⟩)
theorem gx_thget (f : Int) (h : Fx w0 w p o P s) : Calls Tryz.prog 54 #[.pointer (some ⟨P.pm, 0, none⟩), .int .i64 f] w fun e w' => e = .returned (.tuple #[.agg #[.int .i64 (Pthd.gtT s.N s.M f).st, .int .i64 (Pthd.gtT s.N s.M f).co, .int .i64 (Pthd.gtT s.N s.M f).tc, .int .i64 (Pthd.gtT s.N s.M f).rc, .int .i64 (Pthd.gtT s.N s.M f).de], .int .i64 (Pthd.gtE s.N s.M f)]) ∧ Lv w0 w w' p o P s := (Pthd.get_any _ _ _ f _ w (fx_mxT h)).mono (by rintro e w' ⟨h1, h2⟩; exact ⟨h1, lv_below h h2⟩)
theorem gx_rvget (f : Int) (hT : Tz w0) (h : Fx w0 w p o P s) : Calls Tryz.prog 16 #[.pointer (some ⟨P.pm, 0, none⟩), .int .i64 f] w fun e w' => e = .returned (.tuple #[.agg #[.int .i64 (Pqrcv.vgX s.N s.M f).th, .int .i64 (Pqrcv.vgX s.N s.M f).pa, .int .i64 (Pqrcv.vgX s.N s.M f).co, .bool (Pqrcv.vgX s.N s.M f).wa, .int .i64 (Pqrcv.vgX s.N s.M f).lo], .int .i64 (Pqrcv.vgE s.N s.M f)]) ∧ Lv w0 w w' p o P s := (Pqrcv.get_any _ _ _ f _ w (fx_mxR h hT)).mono (by rintro e w' ⟨h1, h2⟩; exact ⟨h1, lv_below h h2⟩)
theorem gx_sused (f : Int) (hT : Tz w0) (h : Fx w0 w p o P s) : Calls Tryz.prog 120 #[.pointer (some ⟨P.pm, 0, none⟩), .int .i64 f] w fun e w' => e = .returned (.tuple #[.int .i64 (Pslot.uN s.N s.M f), .int .i64 (Pslot.aE s.N s.M f)]) ∧ Lv w0 w w' p o P s := (Pslot.sused_any _ _ _ f _ w (fx_mxL h hT)).mono (by rintro e w' ⟨h1, h2⟩; exact ⟨h1, lv_below h h2⟩)
theorem gx_pused (f : Int) (hT : Tz w0) (h : Fx w0 w p o P s) : Calls Tryz.prog 121 #[.pointer (some ⟨P.pm, 0, none⟩), .int .i64 f] w fun e w' => e = .returned (.tuple #[.int .i64 (Pqpgtbl.usN s.N s.M f), .int .i64 (Pqpgtbl.usE s.N s.M f)]) ∧ Lv w0 w w' p o P s := (Pqpgtbl.used_any _ _ _ f _ w (fx_mxP h hT)).mono (by rintro e w' ⟨h1, h2⟩; exact ⟨h1, lv_below h h2⟩)
end
end Go.Proofs.YtcgekcjnaadcmaaGreatDoor.Pbuild
