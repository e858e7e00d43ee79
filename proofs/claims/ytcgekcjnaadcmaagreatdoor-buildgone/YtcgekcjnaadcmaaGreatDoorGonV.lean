/- build's Untype and Kill in a machine (written by mk_gu.py). -/
import Derived.Test.YtcgekcjnaadcmaaGreatDoorGonF
import Derived.Test.YtcgekcjnaadcmaaGreatDoorGonC
import Derived.Deep.RegionHeld3
namespace Go.Proofs.YtcgekcjnaadcmaaGreatDoor.Pbuild
open Go.Proofs.YtcgekcjnaadcmaaGreatDoor.Pbase Go.Proofs.YtcgekcjnaadcmaaGreatDoor.Pchold Go.Proofs.YtcgekcjnaadcmaaGreatDoor.Pfind Go.Proofs.YtcgekcjnaadcmaaGreatDoor.Play Go.Proofs.YtcgekcjnaadcmaaGreatDoor.Pmem Go.Proofs.YtcgekcjnaadcmaaGreatDoor.Pmst Go.Proofs.YtcgekcjnaadcmaaGreatDoor.Ppmach Go.Proofs.YtcgekcjnaadcmaaGreatDoor.Ptint
open Go.RowKit Go.Shelf
set_option linter.unusedVariables false
set_option linter.unusedSimpArgs false

section
variable {w0 w : World} {p : Nat} {o : Nat → Nat} {P : Pq} {s : St}
set_option maxRecDepth 100000 in
set_option maxHeartbeats 4000000 in
/-- What may not go is refused. -/
theorem untype_no (f K : Int) (h : Fx w0 w p o P s) (hty : (Ptyp.toldA s.N s.T f).is = 2) (hgE : Phead.ghE s.N s.M f = 0) (hgK : Phead.ghK s.N s.M f = K) (HD : ∀ wx, Lv w0 w wx p o P s → Calls Tryz.prog 50 #[.pointer (some ⟨p, 0, none⟩), .int .i64 f, .int .i64 K] wx fun e w' => ∃ v, e = .returned (.tuple #[v, .bool false]) ∧ Lv w0 wx w' p o P s) : Calls Tryz.prog 12 #[.pointer (some ⟨p, 0, none⟩), .int .i64 f] w fun e w' => e = .returned (.int .i64 10) ∧ Lv w0 w w' p o P s := by
  have hown : ∀ B, w.heap.size ≤ B → ¬ PMine o B := fun B hB => fx_new h hB
  have H0 := ghide (lv_refl h)
  have HTy : Hid (∀ wx s', Lv w0 w wx p o P s' → Calls Tryz.prog 20 #[.pointer (some ⟨p, 0, none⟩)] wx fun e w' => e = .returned (.pointer (some ⟨P.pt, 0, none⟩)) ∧ Lv w0 w w' p o P s' ∧ Lv w0 wx w' p o P s') := fun wx s' hx => (gx_typ hx.fx).mono (by rintro e w' ⟨h1, h2⟩; exact ⟨h1, hx.then h2, h2⟩)
  have HNw : Hid (∀ wx, Lv w0 w wx p o P s → Calls Tryz.prog 52 #[.pointer (some ⟨p, 0, none⟩)] wx fun e w' => e = .returned (.int .i64 s.C.now) ∧ Lv w0 w w' p o P s ∧ Lv w0 wx w' p o P s) := fun wx hx => (gx_now hx.fx).mono (by rintro e w' ⟨h1, h2⟩; exact ⟨h1, hx.then h2, h2⟩)
  have HYp : Hid (∀ wx, Lv w0 w wx p o P s → Calls Tryz.prog 48 #[.pointer (some ⟨P.pt, 0, none⟩), .int .i64 f] wx fun e w' => e = .returned (.int .i64 2) ∧ Lv w0 w w' p o P s) := fun wx hx => (gx_type f hx.fx).mono (by rintro e w' ⟨h1, h2⟩; rw [hty] at h1; exact ⟨h1, hx.then h2⟩)
  have HMm : Hid (∀ wx, Lv w0 w wx p o P s → Calls Tryz.prog 15 #[.pointer (some ⟨p, 0, none⟩)] wx fun e w' => e = .returned (.pointer (some ⟨P.pm, 0, none⟩)) ∧ Lv w0 w w' p o P s) := fun wx hx => (gx_mem hx.fx).mono (by rintro e w' ⟨h1, h2⟩; exact ⟨h1, hx.then h2⟩)
  have HHg : Hid (∀ wx, Lv w0 w wx p o P s → Calls Tryz.prog 49 #[.pointer (some ⟨P.pm, 0, none⟩), .int .i64 f] wx fun e w' => e = .returned (.tuple #[.agg #[.int .i64 K, .int .i64 (Phead.ghL s.N s.M f), .bool (Phead.ghZ s.N s.M f), .int .i64 (Phead.ghT s.N s.M f)], .int .i64 0]) ∧ Lv w0 w w' p o P s) := fun wx hx => (gx_hget f hx.fx).mono (by rintro e w' ⟨h1, h2⟩; rw [hgE, hgK] at h1; exact ⟨h1, hx.then h2⟩)
  have HDn := ghide HD
  clear h hty hgE hgK HD
  generalize Phead.ghL s.N s.M f = L at HHg
  generalize Phead.ghZ s.N s.M f = Z at HHg
  generalize Phead.ghT s.N s.M f = T at HHg
  go_enter Tryz.func12, Tryz.ntmps12
  go_upto_region 4 with (first
    | (go_at_call 46; refine (taken_any p 47 #[] _).mono ?_; rintro e w1 ⟨rfl, hb, _, _⟩; have H1 := ghide (H0.out.on hb); clear hb)
    | (go_at_call 20; refine (HTy.out _ s H1.out).mono ?_; rintro e w2 ⟨rfl, hl, _⟩; have H2 := ghide hl; clear hl)
    | (go_at_call 48; refine (HYp.out _ H2.out).mono ?_; rintro e w3 ⟨rfl, hl⟩; have H3 := ghide hl; clear hl)
    | (go_at_call 15; refine (HMm.out _ H3.out).mono ?_; rintro e w4 ⟨rfl, hl⟩; have H4 := ghide hl; clear hl)
    | (go_at_call 49; refine (HHg.out _ H4.out).mono ?_; rintro e w5 ⟨rfl, hl⟩; have H5 := ghide hl; clear hl)
    | fail)
  have HX := ghide (H5.out.on (bal (Below.refl _ _) (.cells #[.int .i64 K, .int .i64 L, .bool Z, .int .i64 T] 90)))
  have hx : Hid (RowB (w5.alloc (.cells #[.int .i64 K, .int .i64 L, .bool Z, .int .i64 T] 90)) w5.heap.size 90 #[.int .i64 K, .int .i64 L, .bool Z, .int .i64 T]) := ghide (heap_alloc_new w5 _)
  have hDn := hown w5.heap.size H5.out.size
  clear H1 H2 H3 H4 H5
  generalize w5.alloc _ = X at HX hx ⊢
  generalize w5.heap.size = D at hx hDn ⊢
  have x0 := hx.out.cell 0 rfl
  go_wp2_with (first
    | (go_at_call 50; refine (HDn.out _ HX.out).mono ?_; rintro e y ⟨v, rfl, hl⟩; have HY := ghide (HX.out.then hl); clear hl)
    | fail)
  go_ret
  exact ⟨rfl, HY.out⟩
set_option maxRecDepth 100000 in
set_option maxHeartbeats 4000000 in
theorem untype_yes (f K : Int) (h : Fx w0 w p o P s) (hty : (Ptyp.toldA s.N s.T f).is = 2) (hgE : Phead.ghE s.N s.M f = 0) (hgK : Phead.ghK s.N s.M f = K) (pg : Bool) (hpg : (K == 2) = pg) (he : Ptyp.errA s.N s.T f Ptyp.hUt = 0) (g : Nat) (R : Array Value → World → Prop) (hR : ∀ lb x y s', R lb x → Lv w0 x y p o P s' → R lb y)
    (HD : ∀ wx, Lv w0 w wx p o P s → Calls Tryz.prog 50 #[.pointer (some ⟨p, 0, none⟩), .int .i64 f, .int .i64 K] wx fun e w' => ∃ lb, e = .returned (.tuple #[.func (.func g) #[] lb, .bool true]) ∧ Lv w0 wx w' p o P s ∧ R lb w') (s2 : St) (HU : ∀ wx Ba Bm lb, Lv w0 w wx p o P { s with T := Ptyp.mapA s.N s.T f (Ptyp.gUt s.C.now pg) } → RowB wx Bm 22 #[.pointer (some ⟨p, 0, none⟩)] → ¬ PMine o Bm → R lb wx → RowB wx Ba 64 #[.func (.func g) #[] lb] → Calls Tryz.prog 114 #[.pointer (some ⟨Ba, 0, none⟩), .pointer (some ⟨Bm, 0, none⟩)] wx fun e w' => (∃ v, e = .returned v) ∧ Lv w0 wx w' p o P s2) :
    Calls Tryz.prog 12 #[.pointer (some ⟨p, 0, none⟩), .int .i64 f] w fun e w' => e = .returned (.int .i64 0) ∧ Lv w0 w w' p o P s2 := by
  have hown : ∀ B, w.heap.size ≤ B → ¬ PMine o B := fun B hB => fx_new h hB
  have H0 := ghide (lv_refl h)
  have HTy : Hid (∀ wx s', Lv w0 w wx p o P s' → Calls Tryz.prog 20 #[.pointer (some ⟨p, 0, none⟩)] wx fun e w' => e = .returned (.pointer (some ⟨P.pt, 0, none⟩)) ∧ Lv w0 w w' p o P s' ∧ Lv w0 wx w' p o P s') := fun wx s' hx => (gx_typ hx.fx).mono (by rintro e w' ⟨h1, h2⟩; exact ⟨h1, hx.then h2, h2⟩)
  have HNw : Hid (∀ wx, Lv w0 w wx p o P s → Calls Tryz.prog 52 #[.pointer (some ⟨p, 0, none⟩)] wx fun e w' => e = .returned (.int .i64 s.C.now) ∧ Lv w0 w w' p o P s ∧ Lv w0 wx w' p o P s) := fun wx hx => (gx_now hx.fx).mono (by rintro e w' ⟨h1, h2⟩; exact ⟨h1, hx.then h2, h2⟩)
  have HYp : Hid (∀ wx, Lv w0 w wx p o P s → Calls Tryz.prog 48 #[.pointer (some ⟨P.pt, 0, none⟩), .int .i64 f] wx fun e w' => e = .returned (.int .i64 2) ∧ Lv w0 w w' p o P s) := fun wx hx => (gx_type f hx.fx).mono (by rintro e w' ⟨h1, h2⟩; rw [hty] at h1; exact ⟨h1, hx.then h2⟩)
  have HMm : Hid (∀ wx, Lv w0 w wx p o P s → Calls Tryz.prog 15 #[.pointer (some ⟨p, 0, none⟩)] wx fun e w' => e = .returned (.pointer (some ⟨P.pm, 0, none⟩)) ∧ Lv w0 w w' p o P s) := fun wx hx => (gx_mem hx.fx).mono (by rintro e w' ⟨h1, h2⟩; exact ⟨h1, hx.then h2⟩)
  have HHg : Hid (∀ wx, Lv w0 w wx p o P s → Calls Tryz.prog 49 #[.pointer (some ⟨P.pm, 0, none⟩), .int .i64 f] wx fun e w' => e = .returned (.tuple #[.agg #[.int .i64 K, .int .i64 (Phead.ghL s.N s.M f), .bool (Phead.ghZ s.N s.M f), .int .i64 (Phead.ghT s.N s.M f)], .int .i64 0]) ∧ Lv w0 w w' p o P s) := fun wx hx => (gx_hget f hx.fx).mono (by rintro e w' ⟨h1, h2⟩; rw [hgE, hgK] at h1; exact ⟨h1, hx.then h2⟩)
  have HDn := ghide HD
  have HUn : Hid (∀ wx, Lv w0 w wx p o P s → Calls Tryz.prog 51 #[.pointer (some ⟨P.pt, 0, none⟩), .int .i64 f, .int .i64 s.C.now, .bool pg] wx fun e w' => e = .returned (.int .i64 0) ∧ Lv w0 w w' p o P { s with T := Ptyp.mapA s.N s.T f (Ptyp.gUt s.C.now pg) } ∧ Lv w0 wx w' p o P { s with T := Ptyp.mapA s.N s.T f (Ptyp.gUt s.C.now pg) }) := fun wx hx => (gx_untype f s.C.now pg hx.fx).mono (by rintro e w' ⟨h1, h2⟩; rw [he] at h1; exact ⟨h1, hx.then h2, h2⟩)
  have HUt := ghide HU
  have HRk := ghide hR
  clear h hty hgE hgK HD he hR HU
  generalize { s with T := Ptyp.mapA s.N s.T f (Ptyp.gUt s.C.now pg) } = s1 at HUn HUt
  generalize s.C.now = now at HNw HUn
  skip
  generalize Phead.ghL s.N s.M f = L at HHg
  generalize Phead.ghZ s.N s.M f = Z at HHg
  generalize Phead.ghT s.N s.M f = T at HHg
  go_enter Tryz.func12, Tryz.ntmps12
  go_upto_region 4 with (first
    | (go_at_call 46; refine (taken_any p 47 #[] _).mono ?_; rintro e w1 ⟨rfl, hb, _, _⟩; have H1 := ghide (H0.out.on hb); clear hb)
    | (go_at_call 20; refine (HTy.out _ s H1.out).mono ?_; rintro e w2 ⟨rfl, hl, _⟩; have H2 := ghide hl; clear hl)
    | (go_at_call 48; refine (HYp.out _ H2.out).mono ?_; rintro e w3 ⟨rfl, hl⟩; have H3 := ghide hl; clear hl)
    | (go_at_call 15; refine (HMm.out _ H3.out).mono ?_; rintro e w4 ⟨rfl, hl⟩; have H4 := ghide hl; clear hl)
    | (go_at_call 49; refine (HHg.out _ H4.out).mono ?_; rintro e w5 ⟨rfl, hl⟩; have H5 := ghide hl; clear hl)
    | fail)
  have HX := ghide (H5.out.on (bal (Below.refl _ _) (.cells #[.int .i64 K, .int .i64 L, .bool Z, .int .i64 T] 90)))
  have hx : Hid (RowB (w5.alloc (.cells #[.int .i64 K, .int .i64 L, .bool Z, .int .i64 T] 90)) w5.heap.size 90 #[.int .i64 K, .int .i64 L, .bool Z, .int .i64 T]) := ghide (heap_alloc_new w5 _)
  have hDn := hown w5.heap.size H5.out.size
  clear H1 H2 H3 H4 H5
  generalize w5.alloc _ = X at HX hx ⊢
  generalize w5.heap.size = D at hx hDn ⊢
  have x0 := hx.out.cell 0 rfl
  go_upto_region 9 with (first
    | (go_at_call 50; refine (HDn.out _ HX.out).mono ?_; rintro e y ⟨lb, rfl, hl, hr⟩; have HY := ghide (HX.out.then hl); have hy := ghide (hl.row hx.out hDn); have hRy := ghide hr; clear hl hr)
    | fail)
  have HYd : Hid (Lv w0 w y.drew p o P s) := HY.out.on (Below.refl _ _).drew
  have kS0 : y.drew.cell? ⟨D, 0, none⟩ = some (.int .i64 K) := hy.out.cell 0 rfl
  have hRd : Hid (R lb y.drew) := HRk.out _ _ _ _ hRy.out ((lv_refl HY.out.fx).on (Below.refl _ _).drew)
  have hBn : ¬ PMine o y.drew.heap.size := hown _ HY.out.size
  have hyd : Hid (RowB y.drew D 90 #[.int .i64 K, .int .i64 L, .bool Z, .int .i64 T]) := hy.out
  go_region_held3 (fun x => x.cell? ⟨D, 0, none⟩ = some (.int .i64 K)) (first | with_reducible assumption | with_reducible exact kS0 | with_reducible exact kS1 | go_keep) (first
    | (go_at_call 46; refine (taken_any p g lb _).mono ?_; rintro e z ⟨rfl, hb, hm, ha⟩; have H5 := ghide (HYd.out.on hb); have hm5 := ghide hm; have ha5 := ghide ha; have hR5 := ghide (HRk.out _ _ _ _ hRd.out ((lv_refl HYd.out.fx).on hb)); have kS1 : z.cell? ⟨D, 0, none⟩ = some (.int .i64 K) := (RowB.on hyd.out hb).cell 0 rfl; clear hb hm ha)
    | fail)
  all_goals
    have hAn : ¬ PMine o (y.drew.heap.size + 1) := hown _ (Nat.le_succ_of_le HYd.out.size)

    go_wp2_with (first
        | (go_at_call 20; refine (HTy.out _ s H5.out).mono ?_; rintro e w6 ⟨rfl, hl, hk⟩; have H6 := ghide hl; have hm6 := ghide (hk.row hm5.out hBn); have ha6 := ghide (hk.row ha5.out hAn); have hR6 := ghide (HRk.out _ _ _ _ hR5.out hk); clear hl hk)
        | (go_at_call 52; refine (HNw.out _ H6.out).mono ?_; rintro e w7 ⟨rfl, hl, hk⟩; have H7 := ghide hl; have hm7 := ghide (hk.row hm6.out hBn); have ha7 := ghide (hk.row ha6.out hAn); have hR7 := ghide (HRk.out _ _ _ _ hR6.out hk); clear hl hk)
        | (go_at_call 51; refine (HUn.out _ H7.out).mono ?_; rintro e w8 ⟨rfl, hl, hk⟩; have H8 := ghide hl; have hm8 := ghide (hk.row hm7.out hBn); have ha8 := ghide (hk.row ha7.out hAn); have hR8 := ghide (HRk.out _ _ _ _ hR7.out hk); clear hl hk)
        | (go_at_call 114; refine (HUt.out _ _ _ _ H8.out hm8.out hBn hR8.out ha8.out).mono ?_; rintro e w9 ⟨⟨v, rfl⟩, hl⟩; have H9 := ghide (H8.out.then hl); clear hl)
        | fail)
    go_ret
    exact ⟨rfl, H9.out⟩
set_option maxRecDepth 100000 in
set_option maxHeartbeats 4000000 in
theorem untype_busy (f K : Int) (h : Fx w0 w p o P s) (hty : (Ptyp.toldA s.N s.T f).is = 2) (hgE : Phead.ghE s.N s.M f = 0) (hgK : Phead.ghK s.N s.M f = K) (pg : Bool) (hpg : (K == 2) = pg) (E : Int) (he : Ptyp.errA s.N s.T f Ptyp.hUt = E) (hE : E ≠ 0) (g : Nat) (R : Array Value → World → Prop) (hR : ∀ lb x y s', R lb x → Lv w0 x y p o P s' → R lb y)
    (HD : ∀ wx, Lv w0 w wx p o P s → Calls Tryz.prog 50 #[.pointer (some ⟨p, 0, none⟩), .int .i64 f, .int .i64 K] wx fun e w' => ∃ lb, e = .returned (.tuple #[.func (.func g) #[] lb, .bool true]) ∧ Lv w0 wx w' p o P s ∧ R lb w') :
    Calls Tryz.prog 12 #[.pointer (some ⟨p, 0, none⟩), .int .i64 f] w fun e w' => e = .returned (.int .i64 E) ∧ Lv w0 w w' p o P { s with T := Ptyp.mapA s.N s.T f (Ptyp.gUt s.C.now pg) } := by
  have hown : ∀ B, w.heap.size ≤ B → ¬ PMine o B := fun B hB => fx_new h hB
  have H0 := ghide (lv_refl h)
  have HTy : Hid (∀ wx s', Lv w0 w wx p o P s' → Calls Tryz.prog 20 #[.pointer (some ⟨p, 0, none⟩)] wx fun e w' => e = .returned (.pointer (some ⟨P.pt, 0, none⟩)) ∧ Lv w0 w w' p o P s' ∧ Lv w0 wx w' p o P s') := fun wx s' hx => (gx_typ hx.fx).mono (by rintro e w' ⟨h1, h2⟩; exact ⟨h1, hx.then h2, h2⟩)
  have HNw : Hid (∀ wx, Lv w0 w wx p o P s → Calls Tryz.prog 52 #[.pointer (some ⟨p, 0, none⟩)] wx fun e w' => e = .returned (.int .i64 s.C.now) ∧ Lv w0 w w' p o P s ∧ Lv w0 wx w' p o P s) := fun wx hx => (gx_now hx.fx).mono (by rintro e w' ⟨h1, h2⟩; exact ⟨h1, hx.then h2, h2⟩)
  have HYp : Hid (∀ wx, Lv w0 w wx p o P s → Calls Tryz.prog 48 #[.pointer (some ⟨P.pt, 0, none⟩), .int .i64 f] wx fun e w' => e = .returned (.int .i64 2) ∧ Lv w0 w w' p o P s) := fun wx hx => (gx_type f hx.fx).mono (by rintro e w' ⟨h1, h2⟩; rw [hty] at h1; exact ⟨h1, hx.then h2⟩)
  have HMm : Hid (∀ wx, Lv w0 w wx p o P s → Calls Tryz.prog 15 #[.pointer (some ⟨p, 0, none⟩)] wx fun e w' => e = .returned (.pointer (some ⟨P.pm, 0, none⟩)) ∧ Lv w0 w w' p o P s) := fun wx hx => (gx_mem hx.fx).mono (by rintro e w' ⟨h1, h2⟩; exact ⟨h1, hx.then h2⟩)
  have HHg : Hid (∀ wx, Lv w0 w wx p o P s → Calls Tryz.prog 49 #[.pointer (some ⟨P.pm, 0, none⟩), .int .i64 f] wx fun e w' => e = .returned (.tuple #[.agg #[.int .i64 K, .int .i64 (Phead.ghL s.N s.M f), .bool (Phead.ghZ s.N s.M f), .int .i64 (Phead.ghT s.N s.M f)], .int .i64 0]) ∧ Lv w0 w w' p o P s) := fun wx hx => (gx_hget f hx.fx).mono (by rintro e w' ⟨h1, h2⟩; rw [hgE, hgK] at h1; exact ⟨h1, hx.then h2⟩)
  have HDn := ghide HD
  have HUn : Hid (∀ wx, Lv w0 w wx p o P s → Calls Tryz.prog 51 #[.pointer (some ⟨P.pt, 0, none⟩), .int .i64 f, .int .i64 s.C.now, .bool pg] wx fun e w' => e = .returned (.int .i64 E) ∧ Lv w0 w w' p o P { s with T := Ptyp.mapA s.N s.T f (Ptyp.gUt s.C.now pg) } ∧ Lv w0 wx w' p o P { s with T := Ptyp.mapA s.N s.T f (Ptyp.gUt s.C.now pg) }) := fun wx hx => (gx_untype f s.C.now pg hx.fx).mono (by rintro e w' ⟨h1, h2⟩; rw [he] at h1; exact ⟨h1, hx.then h2, h2⟩)
  have HRk := ghide hR
  clear h hty hgE hgK HD he hR
  generalize { s with T := Ptyp.mapA s.N s.T f (Ptyp.gUt s.C.now pg) } = s1 at HUn ⊢
  generalize s.C.now = now at HNw HUn
  have hE' : (E != 0) = true := by simp [hE]
  generalize Phead.ghL s.N s.M f = L at HHg
  generalize Phead.ghZ s.N s.M f = Z at HHg
  generalize Phead.ghT s.N s.M f = T at HHg
  go_enter Tryz.func12, Tryz.ntmps12
  go_upto_region 4 with (first
    | (go_at_call 46; refine (taken_any p 47 #[] _).mono ?_; rintro e w1 ⟨rfl, hb, _, _⟩; have H1 := ghide (H0.out.on hb); clear hb)
    | (go_at_call 20; refine (HTy.out _ s H1.out).mono ?_; rintro e w2 ⟨rfl, hl, _⟩; have H2 := ghide hl; clear hl)
    | (go_at_call 48; refine (HYp.out _ H2.out).mono ?_; rintro e w3 ⟨rfl, hl⟩; have H3 := ghide hl; clear hl)
    | (go_at_call 15; refine (HMm.out _ H3.out).mono ?_; rintro e w4 ⟨rfl, hl⟩; have H4 := ghide hl; clear hl)
    | (go_at_call 49; refine (HHg.out _ H4.out).mono ?_; rintro e w5 ⟨rfl, hl⟩; have H5 := ghide hl; clear hl)
    | fail)
  have HX := ghide (H5.out.on (bal (Below.refl _ _) (.cells #[.int .i64 K, .int .i64 L, .bool Z, .int .i64 T] 90)))
  have hx : Hid (RowB (w5.alloc (.cells #[.int .i64 K, .int .i64 L, .bool Z, .int .i64 T] 90)) w5.heap.size 90 #[.int .i64 K, .int .i64 L, .bool Z, .int .i64 T]) := ghide (heap_alloc_new w5 _)
  have hDn := hown w5.heap.size H5.out.size
  clear H1 H2 H3 H4 H5
  generalize w5.alloc _ = X at HX hx ⊢
  generalize w5.heap.size = D at hx hDn ⊢
  have x0 := hx.out.cell 0 rfl
  go_upto_region 9 with (first
    | (go_at_call 50; refine (HDn.out _ HX.out).mono ?_; rintro e y ⟨lb, rfl, hl, hr⟩; have HY := ghide (HX.out.then hl); have hy := ghide (hl.row hx.out hDn); have hRy := ghide hr; clear hl hr)
    | fail)
  have HYd : Hid (Lv w0 w y.drew p o P s) := HY.out.on (Below.refl _ _).drew
  have kS0 : y.drew.cell? ⟨D, 0, none⟩ = some (.int .i64 K) := hy.out.cell 0 rfl
  have hRd : Hid (R lb y.drew) := HRk.out _ _ _ _ hRy.out ((lv_refl HY.out.fx).on (Below.refl _ _).drew)
  have hBn : ¬ PMine o y.drew.heap.size := hown _ HY.out.size
  have hyd : Hid (RowB y.drew D 90 #[.int .i64 K, .int .i64 L, .bool Z, .int .i64 T]) := hy.out
  go_region_held3 (fun x => x.cell? ⟨D, 0, none⟩ = some (.int .i64 K)) (first | with_reducible assumption | with_reducible exact kS0 | with_reducible exact kS1 | go_keep) (first
    | (go_at_call 46; refine (taken_any p g lb _).mono ?_; rintro e z ⟨rfl, hb, hm, ha⟩; have H5 := ghide (HYd.out.on hb); have hm5 := ghide hm; have ha5 := ghide ha; have hR5 := ghide (HRk.out _ _ _ _ hRd.out ((lv_refl HYd.out.fx).on hb)); have kS1 : z.cell? ⟨D, 0, none⟩ = some (.int .i64 K) := (RowB.on hyd.out hb).cell 0 rfl; clear hb hm ha)
    | fail)
  all_goals
    have hAn : ¬ PMine o (y.drew.heap.size + 1) := hown _ (Nat.le_succ_of_le HYd.out.size)

    go_wp2_with (first
        | (go_at_call 20; refine (HTy.out _ s H5.out).mono ?_; rintro e w6 ⟨rfl, hl, hk⟩; have H6 := ghide hl; have hm6 := ghide (hk.row hm5.out hBn); have ha6 := ghide (hk.row ha5.out hAn); have hR6 := ghide (HRk.out _ _ _ _ hR5.out hk); clear hl hk)
        | (go_at_call 52; refine (HNw.out _ H6.out).mono ?_; rintro e w7 ⟨rfl, hl, hk⟩; have H7 := ghide hl; have hm7 := ghide (hk.row hm6.out hBn); have ha7 := ghide (hk.row ha6.out hAn); have hR7 := ghide (HRk.out _ _ _ _ hR6.out hk); clear hl hk)
        | (go_at_call 51; refine (HUn.out _ H7.out).mono ?_; rintro e w8 ⟨rfl, hl, hk⟩; have H8 := ghide hl; have hm8 := ghide (hk.row hm7.out hBn); have ha8 := ghide (hk.row ha7.out hAn); have hR8 := ghide (HRk.out _ _ _ _ hR7.out hk); clear hl hk)
        | fail)
    go_ret
    exact ⟨rfl, H8.out⟩
set_option maxRecDepth 100000 in
set_option maxHeartbeats 4000000 in
theorem kill_ok (f : Int) (c : Pcomp.Cp) (TL : Nat → Plive.LS) (h : Fx w0 w p o P s) (hT : Tz w0) (hi : fcE s f = 0) (hc : fcC s f = c) (hk : Plive.klR 64 s.L c.l c.e = 0) (hTL : Plive.klS 64 s.L c.l c.e s.C.now = TL) : Calls Tryz.prog 13 #[.pointer (some ⟨p, 0, none⟩), .int .i64 f] w fun e w' => e = .returned (.int .i64 0) ∧ Lv w0 w w' p o P { s with L := TL, T := unrL s.N s.C.now s.T (ndC c) } := by
  have hown : ∀ B, w.heap.size ≤ B → ¬ PMine o B := fun B hB => fx_new h hB
  have H0 := ghide (lv_refl h)
  have HFC : Hid (Calls Tryz.prog 40 #[.pointer (some ⟨p, 0, none⟩), .int .i64 f] w fun e w' => e = .returned (.tuple #[.agg #[.int .i64 c.tb, .int .i64 c.pg, .int .i64 c.l, .int .i64 c.e, .int .i64 c.fa, .int .i64 c.wh], .int .i64 0]) ∧ Lv w0 w w' p o P s) := (fcomp_any f hT h).mono (by rintro e w' ⟨h1, h2⟩; rw [hi, hc] at h1; exact ⟨h1, lv_below h h2⟩)
  have HLv : Hid (∀ wx, Lv w0 w wx p o P s → Calls Tryz.prog 35 #[.pointer (some ⟨p, 0, none⟩)] wx fun e w' => e = .returned (.pointer (some ⟨P.pl, 0, none⟩)) ∧ Lv w0 w w' p o P s ∧ Lv w0 wx w' p o P s) := fun wx hx => (gx_live hx.fx).mono (by rintro e w' ⟨h1, h2⟩; exact ⟨h1, hx.then h2, h2⟩)
  have HNw : Hid (∀ wx, Lv w0 w wx p o P s → Calls Tryz.prog 52 #[.pointer (some ⟨p, 0, none⟩)] wx fun e w' => e = .returned (.int .i64 s.C.now) ∧ Lv w0 w w' p o P s ∧ Lv w0 wx w' p o P s) := fun wx hx => (gx_now hx.fx).mono (by rintro e w' ⟨h1, h2⟩; exact ⟨h1, hx.then h2, h2⟩)
  have HKl : Hid (∀ wx, Lv w0 w wx p o P s → Calls Tryz.prog 53 #[.pointer (some ⟨P.pl, 0, none⟩), .int .i64 c.l, .int .i64 c.e, .int .i64 s.C.now] wx fun e w' => e = .returned (.int .i64 0) ∧ Lv w0 w w' p o P { s with L := TL } ∧ Lv w0 wx w' p o P { s with L := TL }) := fun wx hx => (gx_kill c.l c.e s.C.now hx.fx).mono (by rintro e w' ⟨h1, h2⟩; rw [hTL] at h2; rw [hk] at h1; exact ⟨h1, hx.then h2, h2⟩)
  have HOf : Hid (∀ wx, Calls Tryz.prog 32 #[.agg #[.int .i64 c.tb, .int .i64 c.pg, .int .i64 c.l, .int .i64 c.e, .int .i64 c.fa, .int .i64 c.wh]] wx fun x w' => x = .returned (.func (.func 91) #[] #[.pointer (some ⟨wx.heap.size, 0, none⟩)]) ∧ RowB w' wx.heap.size 60 #[.int .i64 c.tb, .int .i64 c.pg, .int .i64 c.l, .int .i64 c.e, .int .i64 c.fa, .int .i64 c.wh] ∧ Below wx.heap.size wx w') := fun wx => ofC_any c wx
  have HUt : Hid (∀ wx Ba Bm A, Lv w0 w wx p o P { s with L := TL } → RowB wx Bm 22 #[.pointer (some ⟨p, 0, none⟩)] → ¬ PMine o Bm → ¬ PMine o A → RowB wx A 60 #[.int .i64 c.tb, .int .i64 c.pg, .int .i64 c.l, .int .i64 c.e, .int .i64 c.fa, .int .i64 c.wh] → RowB wx Ba 64 #[.func (.func 91) #[] #[.pointer (some ⟨A, 0, none⟩)]] → Calls Tryz.prog 114 #[.pointer (some ⟨Ba, 0, none⟩), .pointer (some ⟨Bm, 0, none⟩)] wx fun e w' => (∃ v, e = .returned v) ∧ Lv w0 w w' p o P { s with L := TL, T := unrL s.N s.C.now s.T (ndC c) }) := fun wx Ba Bm A hx h1 h2 h3 h4 h5 => (untakeC c hx.fx h1 h2 h3 h4 h5).mono (by rintro e w' ⟨g1, g2⟩; exact ⟨g1, hx.then g2⟩)
  clear h hT hi hc hk hTL
  generalize { s with L := TL, T := unrL s.N s.C.now s.T (ndC c) } = s2 at HUt ⊢
  generalize { s with L := TL } = s1 at HKl HUt
  generalize s.C.now = now at HNw HKl
  generalize c.tb = I0 at HFC HOf HUt
  generalize c.pg = I1 at HFC HOf HUt
  generalize c.l = I2 at HFC HOf HUt HKl
  generalize c.e = I3 at HFC HOf HUt HKl
  generalize c.fa = I4 at HFC HOf HUt
  generalize c.wh = I5 at HFC HOf HUt
  go_enter Tryz.func13, Tryz.ntmps13
  go_upto_region 2 with (first
    | (go_at_call 40; refine HFC.out.mono ?_; rintro e w1 ⟨rfl, hl⟩; have H1 := ghide hl; clear hl)
    | fail)
  have HX := ghide (H1.out.on (bal (Below.refl _ _) (.cells #[.int .i64 I0, .int .i64 I1, .int .i64 I2, .int .i64 I3, .int .i64 I4, .int .i64 I5] 60)))
  have hx : Hid (RowB (w1.alloc (.cells #[.int .i64 I0, .int .i64 I1, .int .i64 I2, .int .i64 I3, .int .i64 I4, .int .i64 I5] 60)) w1.heap.size 60 #[.int .i64 I0, .int .i64 I1, .int .i64 I2, .int .i64 I3, .int .i64 I4, .int .i64 I5]) := ghide (heap_alloc_new w1 _)
  have hDn := hown w1.heap.size H1.out.size
  clear H1
  generalize w1.alloc _ = X at HX hx ⊢
  generalize w1.heap.size = D at hx hDn ⊢
  have x0 := hx.out.cell 0 rfl
  have x1 := hx.out.cell 1 rfl
  have x2 := hx.out.cell 2 rfl
  have x3 := hx.out.cell 3 rfl
  have x4 := hx.out.cell 4 rfl
  have x5 := hx.out.cell 5 rfl
  go_upto_region 5 with (first
    | (go_at_call 32; refine (HOf.out _).mono ?_; rintro e w2 ⟨rfl, hr, hb⟩; have H2 := ghide (HX.out.on hb); have hx2 := ghide (RowB.on hx.out hb); have hc2 := ghide hr; clear hb hr)
    | (go_at_call 46; refine (taken_any p 91 _ _).mono ?_; rintro e w3 ⟨rfl, hb, hm, ha⟩; have H3 := ghide (H2.out.on hb); have hx3 := ghide (RowB.on hx2.out hb); have hc3 := ghide (RowB.on hc2.out hb); have hm3 := ghide hm; have ha3 := ghide ha; clear hb hm ha)
    | fail)
  have hAn := hown X.heap.size HX.out.size
  have hMn := hown w2.heap.size H2.out.size
  have hSn := hown (w2.heap.size + 1) (Nat.le_succ_of_le H2.out.size)
  generalize X.heap.size = A at hc3 ha3 hAn ⊢
  generalize w2.heap.size = Bm at hm3 ha3 hMn hSn ⊢
  have H3d : Hid (Lv w0 w w3.drew p o P s) := H3.out.on (Below.refl _ _).drew
  have hx3d : Hid (RowB w3.drew D 60 #[.int .i64 I0, .int .i64 I1, .int .i64 I2, .int .i64 I3, .int .i64 I4, .int .i64 I5]) := hx3.out
  have hc3d : Hid (RowB w3.drew A 60 #[.int .i64 I0, .int .i64 I1, .int .i64 I2, .int .i64 I3, .int .i64 I4, .int .i64 I5]) := hc3.out
  have hm3d : Hid (RowB w3.drew Bm 22 #[.pointer (some ⟨p, 0, none⟩)]) := hm3.out
  have ha3d : Hid (RowB w3.drew (Bm + 1) 64 #[.func (.func 91) #[] #[.pointer (some ⟨A, 0, none⟩)]]) := ha3.out
  have kS0 : w3.drew.cell? ⟨D, 2, none⟩ = some (.int .i64 I2) ∧ w3.drew.cell? ⟨D, 3, none⟩ = some (.int .i64 I3) := ⟨hx3d.out.cell 2 rfl, hx3d.out.cell 3 rfl⟩
  go_region_held3 (fun x => x.cell? ⟨D, 2, none⟩ = some (.int .i64 I2) ∧ x.cell? ⟨D, 3, none⟩ = some (.int .i64 I3)) (first | with_reducible assumption | with_reducible exact kS0 | with_reducible exact kS1 | with_reducible exact kS2 | with_reducible exact kS3 | go_keep) (first
    | (go_at_call 35; refine (HLv.out _ H3d.out).mono ?_; rintro e w4 ⟨rfl, hl, hk⟩; have H4 := ghide hl; have hx4 := ghide (hk.row hx3d.out hDn); have hc4 := ghide (hk.row hc3d.out hAn); have hm4 := ghide (hk.row hm3d.out hMn); have ha4 := ghide (hk.row ha3d.out hSn); have kS1 := And.intro (hx4.out.cell 2 rfl) (hx4.out.cell 3 rfl); clear hl hk)
    | (go_at_call 52; refine (HNw.out _ H4.out).mono ?_; rintro e w5 ⟨rfl, hl, hk⟩; have H5 := ghide hl; have hx5 := ghide (hk.row hx4.out hDn); have hc5 := ghide (hk.row hc4.out hAn); have hm5 := ghide (hk.row hm4.out hMn); have ha5 := ghide (hk.row ha4.out hSn); have kS2 := And.intro (hx5.out.cell 2 rfl) (hx5.out.cell 3 rfl); clear hl hk)
    | (go_at_call 53; refine (HKl.out _ H5.out).mono ?_; rintro e w6 ⟨rfl, hl, hk⟩; have H6 := ghide hl; have hx6 := ghide (hk.row hx5.out hDn); have hc6 := ghide (hk.row hc5.out hAn); have hm6 := ghide (hk.row hm5.out hMn); have ha6 := ghide (hk.row ha5.out hSn); have kS3 := And.intro (hx6.out.cell 2 rfl) (hx6.out.cell 3 rfl); clear hl hk)
    | fail)
  all_goals
    go_wp2_with (first
      | (go_at_call 114; refine (HUt.out _ _ _ _ H6.out hm6.out hMn hAn hc6.out ha6.out).mono ?_; rintro e w7 ⟨⟨v, rfl⟩, hl⟩; have H7 := ghide hl; clear hl)
      | fail)
    go_ret
    exact ⟨rfl, H7.out⟩
end
end Go.Proofs.YtcgekcjnaadcmaaGreatDoor.Pbuild
