import Derived.Test.YtkkclcihjojphaaGreatDoorPagK
set_option linter.unusedVariables false
set_option linter.unusedSimpArgs false
set_option maxRecDepth 100000
set_option maxHeartbeats 20000000
namespace Go.Proofs.YtkkclcihjojphaaGreatDoor
namespace Pbpag
open Pbase Pchold Pfind Play Pmem Pmst Ppmach Ptint Go.RowKit Go.Shelf
section
variable {w0 w w' w1 w2 : World} {p : Nat} {o : Nat -> Nat} {P : Pq} {s s' : St} {A : Nat} {v : Value}
theorem gx_pcons (root high f fl : Int) (hT : Tz w0) (h : Fx w0 w p o P s) : Calls Tryz.prog 29 #[.pointer (some ⟨P.pm, 0, none⟩), .int .i64 root, .int .i64 high, .int .i64 f, .int .i64 fl] w fun e w' => e = .returned (.int .i64 (Ppgtbl.coE s.N s.M root high f fl)) /\ Lv w0 w w' p o P { s with M := Ppgtbl.coM s.N s.M root high f fl } := (Ppgtbl.cons_any _ _ _ root high f fl _ w (fx_mxP h hT)).mono (by rintro e w' ⟨h1, h2, h3⟩; exact ⟨h1, lv_words h h2.mem h2.fit h3⟩)
theorem gx_pmap (root page f r fl : Int) (hT : Tz w0) (h : Fx w0 w p o P s) : Calls Tryz.prog 21 #[.pointer (some ⟨P.pm, 0, none⟩), .int .i64 root, .int .i64 page, .int .i64 f, .int .i64 r, .int .i64 fl] w fun e w' => e = .returned (.int .i64 (Ppgtbl.maE s.N s.M root page f r fl)) /\ Lv w0 w w' p o P { s with M := Ppgtbl.maM s.N s.M root page f r fl } := (Ppgtbl.map_any _ _ _ root page f r fl _ w (fx_mxP h hT)).mono (by rintro e w' ⟨h1, h2, h3⟩; exact ⟨h1, lv_words h h2.mem h2.fit h3⟩)
theorem made_ok (h : Fx w0 w p o P s) : Calls Tryz.prog 10 #[.pointer (some ⟨p, 0, none⟩)] w fun e w' => e = .returned (.int .i64 0) /\ Lv w0 w w' p o P s := by
 have HC := ghide (pcores_any h.x.v h.ws)
 have H0 := ghide (lv_refl h)
 have hn : ((s.n : Int) == 0) = false := by have := h.ws.c1; simp; omega
 clear h
 generalize (s.n : Int) = n at HC hn
 go_enter Tryz.func10, Tryz.ntmps10
 go_wp2_with (first
  | (go_at_call 34; refine HC.out.mono ?_; rintro e1 w1 ⟨rfl, hw⟩; subst w1; clear HC)
  | fail)
 go_ret
 exact ⟨rfl, H0.out⟩
theorem wide_any (n : Int) (w : World) : Calls Tryz.prog 80 #[.int .i64 n] w fun e w' => e = .returned (.int .i64 n) /\ w' = w := by
 go_enter Tryz.func80, Tryz.ntmps80
 go_wp2
 go_ret
 exact ⟨rfl, rfl⟩
theorem wideS_any (w : World) : Calls Tryz.prog 81 #[.int .i16 1000] w fun e w' => e = .returned (.int .i64 1000) /\ w' = w := by
 go_enter Tryz.func81, Tryz.ntmps81
 go_wp2
 go_ret
 exact ⟨rfl, rfl⟩
theorem prm_ok (f : Int) (h : Fx w0 w p o P s) (hc : (Ptyp.toldA s.N s.T f).cnt < 1000) : Calls Tryz.prog 47 #[.pointer (some ⟨p, 0, none⟩), .int .i64 f] w fun e w' => e = .returned (.int .i64 0) /\ Lv w0 w w' p o P s := by
 have HT := ghide (gx_typ h)
 have HC : Hid (∀ wx, Lv w0 w wx p o P s -> Calls Tryz.prog 33 #[.pointer (some ⟨P.pt, 0, none⟩), .int .i64 f] wx fun e w' => e = .returned (.int .i64 (Ptyp.toldA s.N s.T f).cnt) /\ Lv w0 w w' p o P s) := fun wx hx => (gx_count f hx.fx).mono (by rintro e w' ⟨h1, h2⟩; exact ⟨h1, hx.then h2⟩)
 clear h
 generalize (Ptyp.toldA s.N s.T f).cnt = c at HC hc
 have hc' : ¬ (1000 : Int) <= c := by omega
 go_enter Tryz.func47, Tryz.ntmps47
 go_wp2_with (first
  | (go_at_call 32; refine HT.out.mono ?_; rintro e w1 ⟨rfl, hb⟩; have H1 := ghide hb; clear hb HT)
  | (go_at_call 33; refine (HC.out _ H1.out).mono ?_; rintro e w2 ⟨rfl, hb⟩; have H2 := ghide hb; clear hb HC H1)
  | (go_at_call 80; refine (wide_any _ _).mono ?_; rintro e w3 ⟨rfl, hw⟩; subst w3)
  | (go_at_call 81; refine (wideS_any _).mono ?_; rintro e w3 ⟨rfl, hw⟩; subst w3)
  | fail)
 go_ret
 exact ⟨rfl, H2.out⟩
theorem maycons_ok (root f : Int) (h : Fx w0 w p o P s) (hne : root ≠ f) (hc : (Ptyp.toldA s.N s.T f).cnt < 1000) : Calls Tryz.prog 26 #[.pointer (some ⟨p, 0, none⟩), .int .i64 root, .int .i64 f] w fun e w' => e = .returned (.int .i64 0) /\ Lv w0 w w' p o P s := by
 have HM := ghide (made_ok h)
 have HR : Hid (∀ wx, Lv w0 w wx p o P s -> Calls Tryz.prog 47 #[.pointer (some ⟨p, 0, none⟩), .int .i64 f] wx fun e w' => e = .returned (.int .i64 0) /\ Lv w0 w w' p o P s) := fun wx hx => (prm_ok f hx.fx hc).mono (by rintro e w' ⟨h1, h2⟩; exact ⟨h1, hx.then h2⟩)
 have hne' : (root == f) = false := by simp [hne]
 clear h hc hne
 go_enter Tryz.func26, Tryz.ntmps26
 go_wp2_with (first
  | (go_at_call 10; refine HM.out.mono ?_; rintro e w1 ⟨rfl, hb⟩; have H1 := ghide hb; clear hb HM)
  | (go_at_call 47; refine (HR.out _ H1.out).mono ?_; rintro e w2 ⟨rfl, hb⟩; have H2 := ghide hb; clear hb HR H1)
  | fail)
 go_ret
 exact ⟨rfl, H2.out⟩
theorem maymap_ok (f : Int) (h : Fx w0 w p o P s) (hi : (Ptyp.toldA s.N s.T f).is = 1) (hc : (Ptyp.toldA s.N s.T f).cnt < 1000) : Calls Tryz.prog 19 #[.pointer (some ⟨p, 0, none⟩), .int .i64 f] w fun e w' => e = .returned (.int .i64 0) /\ Lv w0 w w' p o P s := by
 have HM := ghide (made_ok h)
 have HT : Hid (∀ wx, Lv w0 w wx p o P s -> Calls Tryz.prog 32 #[.pointer (some ⟨p, 0, none⟩)] wx fun e w' => e = .returned (.pointer (some ⟨P.pt, 0, none⟩)) /\ Lv w0 w w' p o P s) := fun wx hx => (gx_typ hx.fx).mono (by rintro e w' ⟨h1, h2⟩; exact ⟨h1, hx.then h2⟩)
 have HI : Hid (∀ wx, Lv w0 w wx p o P s -> Calls Tryz.prog 46 #[.pointer (some ⟨P.pt, 0, none⟩), .int .i64 f] wx fun e w' => e = .returned (.int .i64 1) /\ Lv w0 w w' p o P s) := fun wx hx => (gx_type f hx.fx).mono (by rintro e w' ⟨h1, h2⟩; exact ⟨h1.trans (by rw [hi]), hx.then h2⟩)
 have HR : Hid (∀ wx, Lv w0 w wx p o P s -> Calls Tryz.prog 47 #[.pointer (some ⟨p, 0, none⟩), .int .i64 f] wx fun e w' => e = .returned (.int .i64 0) /\ Lv w0 w w' p o P s) := fun wx hx => (prm_ok f hx.fx hc).mono (by rintro e w' ⟨h1, h2⟩; exact ⟨h1, hx.then h2⟩)
 clear h hc hi
 go_enter Tryz.func19, Tryz.ntmps19
 go_wp2_with (first
  | (go_at_call 10; refine HM.out.mono ?_; rintro e w1 ⟨rfl, hb⟩; have H1 := ghide hb; clear hb HM)
  | (go_at_call 32; refine (HT.out _ H1.out).mono ?_; rintro e w2 ⟨rfl, hb⟩; have H2 := ghide hb; clear hb HT H1)
  | (go_at_call 46; refine (HI.out _ H2.out).mono ?_; rintro e w3 ⟨rfl, hb⟩; have H3 := ghide hb; clear hb HI H2)
  | (go_at_call 47; refine (HR.out _ H3.out).mono ?_; rintro e w4 ⟨rfl, hb⟩; have H4 := ghide hb; clear hb HR H3)
  | fail)
 go_ret
 exact ⟨rfl, H4.out⟩
theorem floor_ok (h : Fx w0 w p o P s) : Calls Tryz.prog 22 #[.pointer (some ⟨p, 0, none⟩)] w fun e w' => e = .returned (.int .i64 (Pclock.floF s.n s.C)) /\ Lv w0 w w' p o P s := by
 have HF := ghide (gx_floors h)
 clear h
 generalize Pclock.floF s.n s.C = x at HF ⊢
 generalize Pclock.floE s.n s.C = y at HF
 go_enter Tryz.func22, Tryz.ntmps22
 go_wp2_with (first
  | (go_at_call 51; refine HF.out.mono ?_; rintro e w1 ⟨rfl, hb⟩; have H1 := ghide hb; clear hb HF)
  | fail)
 go_ret
 exact ⟨rfl, H1.out⟩
theorem more_ok (h : Fx w0 w p o P s) : Calls Tryz.prog 23 #[.pointer (some ⟨p, 0, none⟩)] w fun e w' => ∃ A, e = .returned (.func (.func 52) #[] #[.pointer (some ⟨A, 0, none⟩)]) /\ Bx o w' A (.pointer (some ⟨p, 0, none⟩)) /\ Lv w0 w w' p o P s := by
 have HK : Hid (Bx o (w.alloc (.cells #[.pointer (some ⟨p, 0, none⟩)] 35)) w.heap.size (.pointer (some ⟨p, 0, none⟩)) /\ Lv w0 w (w.alloc (.cells #[.pointer (some ⟨p, 0, none⟩)] 35)) p o P s) := ⟨bx_new h _ _, lv_alloc (lv_refl h) _⟩
 clear h
 go_enter Tryz.func23, Tryz.ntmps23
 go_wp2
 go_ret
 exact ⟨_, rfl, HK.out⟩
theorem more1_ok (f : Int) (h : Fx w0 w p o P s) (hA : Bx o w A (.pointer (some ⟨p, 0, none⟩))) (he : Ptyp.errA s.N s.T f Ptyp.hRf = 0) : Calls Tryz.prog 52 #[.int .i64 f, .pointer (some ⟨A, 0, none⟩)] w fun e w' => e = .returned (.int .i64 0) /\ Lv w0 w w' p o P { s with T := Ptyp.mapA s.N s.T f Ptyp.gRf } := by
 have HT := ghide (gx_typ h)
 have HR : Hid (∀ wx, Lv w0 w wx p o P s -> Calls Tryz.prog 53 #[.pointer (some ⟨P.pt, 0, none⟩), .int .i64 f] wx fun e w' => e = .returned (.int .i64 0) /\ Lv w0 w w' p o P { s with T := Ptyp.mapA s.N s.T f Ptyp.gRf }) := fun wx hx => (gx_ref f hx.fx).mono (by rintro e w' ⟨h1, h2⟩; exact ⟨h1.trans (by rw [he]), hx.then h2⟩)
 have cA := hA.cell
 clear h hA he
 generalize { s with T := Ptyp.mapA s.N s.T f Ptyp.gRf } = s2 at HR ⊢
 go_enter Tryz.func52, Tryz.ntmps52
 go_wp2_with (first
  | (go_at_call 32; refine HT.out.mono ?_; rintro e w1 ⟨rfl, hb⟩; have H1 := ghide hb; clear hb HT)
  | (go_at_call 53; refine (HR.out _ H1.out).mono ?_; rintro e w2 ⟨rfl, hb⟩; have H2 := ghide hb; clear hb HR H1)
  | fail)
 go_ret
 exact ⟨rfl, H2.out⟩
theorem orelse_ok (A a b c d : Nat) (h : Fx w0 w p o P s) : Calls Tryz.prog 30 #[.func (.func 52) #[] #[.pointer (some ⟨A, 0, none⟩)], .func (.func 56) #[] #[.pointer (some ⟨a, 0, none⟩), .pointer (some ⟨b, 0, none⟩), .pointer (some ⟨c, 0, none⟩), .pointer (some ⟨d, 0, none⟩)]] w fun e w' => ∃ E F, e = .returned (.func (.func 58) #[] #[.pointer (some ⟨E, 0, none⟩), .pointer (some ⟨F, 0, none⟩)]) /\ Bx o w' E (.func (.func 52) #[] #[.pointer (some ⟨A, 0, none⟩)]) /\ Lv w0 w w' p o P s := by
 have HK : Hid (∀ t b, Bx o ((w.alloc (.cells #[.func (.func 52) #[] #[.pointer (some ⟨A, 0, none⟩)]] t)).alloc b) w.heap.size (.func (.func 52) #[] #[.pointer (some ⟨A, 0, none⟩)]) /\ Lv w0 w ((w.alloc (.cells #[.func (.func 52) #[] #[.pointer (some ⟨A, 0, none⟩)]] t)).alloc b) p o P s) := fun t b => ⟨(bx_new h _ t).on (bal (Below.refl _ _) _), lv_alloc (lv_alloc (lv_refl h) _) _⟩
 clear h
 go_enter Tryz.func30, Tryz.ntmps30
 go_wp2
 go_ret
 exact ⟨_, _, rfl, HK.out _ _⟩
theorem orelse1_ok (f : Int) (E F : Nat) (h : Fx w0 w p o P s) (hE : Bx o w E (.func (.func 52) #[] #[.pointer (some ⟨A, 0, none⟩)])) (hA : Bx o w A (.pointer (some ⟨p, 0, none⟩))) (he : Ptyp.errA s.N s.T f Ptyp.hRf = 0) : Calls Tryz.prog 58 #[.int .i64 f, .pointer (some ⟨E, 0, none⟩), .pointer (some ⟨F, 0, none⟩)] w fun e w' => e = .returned (.int .i64 0) /\ Lv w0 w w' p o P { s with T := Ptyp.mapA s.N s.T f Ptyp.gRf } := by
 have HM := ghide (more1_ok f h hA he)
 have cE := hE.cell
 clear h hA he hE
 generalize { s with T := Ptyp.mapA s.N s.T f Ptyp.gRf } = s2 at HM ⊢
 go_enter Tryz.func58, Tryz.ntmps58
 go_wp2_with (first
  | (go_at_call 52; refine HM.out.mono ?_; rintro e w1 ⟨rfl, hb⟩; have H1 := ghide hb; clear hb HM)
  | fail)
 go_ret
 exact ⟨rfl, H1.out⟩
theorem box4 (h : Fx w0 w p o P s) (v0 v1 v2 v3 : Value) (t0 t1 t2 t3 : TypeId) : Lv w0 w ((((w.alloc (.cells #[v0] t0)).alloc (.cells #[v1] t1)).alloc (.cells #[v2] t2)).alloc (.cells #[v3] t3)) p o P s /\ Bx o ((((w.alloc (.cells #[v0] t0)).alloc (.cells #[v1] t1)).alloc (.cells #[v2] t2)).alloc (.cells #[v3] t3)) w.heap.size v0 /\ Bx o ((((w.alloc (.cells #[v0] t0)).alloc (.cells #[v1] t1)).alloc (.cells #[v2] t2)).alloc (.cells #[v3] t3)) (w.heap.size + 1) v1 /\ Bx o ((((w.alloc (.cells #[v0] t0)).alloc (.cells #[v1] t1)).alloc (.cells #[v2] t2)).alloc (.cells #[v3] t3)) (w.heap.size + 1 + 1) v2 /\ Bx o ((((w.alloc (.cells #[v0] t0)).alloc (.cells #[v1] t1)).alloc (.cells #[v2] t2)).alloc (.cells #[v3] t3)) (w.heap.size + 1 + 1 + 1) v3 := by
 obtain ⟨l3, b0, b1, b2⟩ := box3 h v0 v1 v2 t0 t1 t2
 have b3 := bx_new l3.fx v3 t3
 rw [World.size_alloc, World.size_alloc, World.size_alloc] at b3
 have hB : ∀ W : World, Below W.heap.size W (W.alloc (.cells #[v3] t3)) := fun W => bal (Below.refl _ _) _
 exact ⟨lv_alloc l3 _, b0.on (hB _), b1.on (hB _), b2.on (hB _), b3⟩
theorem box5 (h : Fx w0 w p o P s) (v0 v1 v2 v3 v4 : Value) (t0 t1 t2 t3 t4 : TypeId) : Lv w0 w (((((w.alloc (.cells #[v0] t0)).alloc (.cells #[v1] t1)).alloc (.cells #[v2] t2)).alloc (.cells #[v3] t3)).alloc (.cells #[v4] t4)) p o P s /\ Bx o (((((w.alloc (.cells #[v0] t0)).alloc (.cells #[v1] t1)).alloc (.cells #[v2] t2)).alloc (.cells #[v3] t3)).alloc (.cells #[v4] t4)) w.heap.size v0 /\ Bx o (((((w.alloc (.cells #[v0] t0)).alloc (.cells #[v1] t1)).alloc (.cells #[v2] t2)).alloc (.cells #[v3] t3)).alloc (.cells #[v4] t4)) (w.heap.size + 1) v1 /\ Bx o (((((w.alloc (.cells #[v0] t0)).alloc (.cells #[v1] t1)).alloc (.cells #[v2] t2)).alloc (.cells #[v3] t3)).alloc (.cells #[v4] t4)) (w.heap.size + 1 + 1) v2 /\ Bx o (((((w.alloc (.cells #[v0] t0)).alloc (.cells #[v1] t1)).alloc (.cells #[v2] t2)).alloc (.cells #[v3] t3)).alloc (.cells #[v4] t4)) (w.heap.size + 1 + 1 + 1) v3 /\ Bx o (((((w.alloc (.cells #[v0] t0)).alloc (.cells #[v1] t1)).alloc (.cells #[v2] t2)).alloc (.cells #[v3] t3)).alloc (.cells #[v4] t4)) (w.heap.size + 1 + 1 + 1 + 1) v4 := by
 obtain ⟨l3, b0, b1, b2, b3⟩ := box4 h v0 v1 v2 v3 t0 t1 t2 t3
 have b4 := bx_new l3.fx v4 t4
 rw [World.size_alloc, World.size_alloc, World.size_alloc, World.size_alloc] at b4
 have hB : ∀ W : World, Below W.heap.size W (W.alloc (.cells #[v4] t4)) := fun W => bal (Below.refl _ _) _
 exact ⟨lv_alloc l3 _, b0.on (hB _), b1.on (hB _), b2.on (hB _), b3.on (hB _), b4⟩
theorem cons1_ok (root high f : Int) (a b c d : Nat) (h : Fx w0 w p o P s) (hT : Tz w0) (ha : Bx o w a (.int .i64 f)) (hb : Bx o w b (.pointer (some ⟨p, 0, none⟩))) (hc : Bx o w c (.int .i64 root)) (hd : Bx o w d (.int .i64 high)) (he : Ppgtbl.coE s.N s.M root high f (Pclock.floF s.n s.C) = 0) : Calls Tryz.prog 28 #[.pointer (some ⟨a, 0, none⟩), .pointer (some ⟨b, 0, none⟩), .pointer (some ⟨c, 0, none⟩), .pointer (some ⟨d, 0, none⟩)] w fun e w' => e = .returned (.tuple #[.int .i64 f, .int .i64 0]) /\ Lv w0 w w' p o P { s with M := Ppgtbl.coM s.N s.M root high f (Pclock.floF s.n s.C) } := by
 have HM : Hid (∀ wx, Lv w0 w wx p o P s -> Calls Tryz.prog 14 #[.pointer (some ⟨p, 0, none⟩)] wx fun e w' => e = .returned (.pointer (some ⟨P.pm, 0, none⟩)) /\ Lv w0 w w' p o P s) := fun wx hx => (gx_mem hx.fx).mono (by rintro e w' ⟨h1, h2⟩; exact ⟨h1, hx.then h2⟩)
 have HF : Hid (∀ wx, Lv w0 w wx p o P s -> Calls Tryz.prog 22 #[.pointer (some ⟨p, 0, none⟩)] wx fun e w' => e = .returned (.int .i64 (Pclock.floF s.n s.C)) /\ Lv w0 w w' p o P s) := fun wx hx => (floor_ok hx.fx).mono (by rintro e w' ⟨h1, h2⟩; exact ⟨h1, hx.then h2⟩)
 have HC : Hid (∀ wx, Lv w0 w wx p o P s -> Calls Tryz.prog 29 #[.pointer (some ⟨P.pm, 0, none⟩), .int .i64 root, .int .i64 high, .int .i64 f, .int .i64 (Pclock.floF s.n s.C)] wx fun e w' => e = .returned (.int .i64 0) /\ Lv w0 w w' p o P { s with M := Ppgtbl.coM s.N s.M root high f (Pclock.floF s.n s.C) }) := fun wx hx => (gx_pcons root high f _ hT hx.fx).mono (by rintro e w' ⟨h1, h2⟩; exact ⟨h1.trans (by rw [he]), hx.then h2⟩)
 have HS : Hid (∀ wx s', Lv w0 w wx p o P s' -> wx.cell? ⟨a, 0, none⟩ = some (.int .i64 f) /\ wx.cell? ⟨b, 0, none⟩ = some (.pointer (some ⟨p, 0, none⟩)) /\ wx.cell? ⟨c, 0, none⟩ = some (.int .i64 root) /\ wx.cell? ⟨d, 0, none⟩ = some (.int .i64 high)) := fun wx s' hx => ⟨(ha.lv hx).cell, (hb.lv hx).cell, (hc.lv hx).cell, (hd.lv hx).cell⟩
 have H0 : Hid (Lv w0 w w.drew p o P s) := (lv_refl h).on (Below.refl _ _).drew
 have kS0 := HS.out _ _ H0.out
 clear h hT ha hb hc hd he
 generalize { s with M := Ppgtbl.coM s.N s.M root high f (Pclock.floF s.n s.C) } = s2 at HC ⊢
 generalize Pclock.floF s.n s.C = fl at HF HC
 go_enter Tryz.func28, Tryz.ntmps28
 go_upto_region 1 with fail
 go_region_held3 (fun x => x.cell? ⟨a, 0, none⟩ = some (.int .i64 f) /\ x.cell? ⟨b, 0, none⟩ = some (.pointer (some ⟨p, 0, none⟩)) /\ x.cell? ⟨c, 0, none⟩ = some (.int .i64 root) /\ x.cell? ⟨d, 0, none⟩ = some (.int .i64 high)) (first | with_reducible assumption | with_reducible exact kS0 | with_reducible exact kS1 | with_reducible exact kS2 | with_reducible exact kS3 | go_keep) (first
  | (go_at_call 14; refine (HM.out _ H0.out).mono ?_; rintro e w1 ⟨rfl, hl⟩; have H1 := ghide hl; clear hl; have kS1 := HS.out _ _ H1.out)
  | (go_at_call 22; refine (HF.out _ H1.out).mono ?_; rintro e w2 ⟨rfl, hl⟩; have H2 := ghide hl; clear hl; have kS2 := HS.out _ _ H2.out)
  | (go_at_call 29; refine (HC.out _ H2.out).mono ?_; rintro e w3 ⟨rfl, hl⟩; have H3 := ghide hl; clear hl; have kS3 := HS.out _ _ H3.out)
  | fail)
 all_goals (go_wp2_with fail; go_ret2; exact ⟨rfl, H3.out⟩)
theorem map1_ok (root n f r : Int) (a b c d g : Nat) (h : Fx w0 w p o P s) (hT : Tz w0) (ha : Bx o w a (.int .i64 f)) (hb : Bx o w b (.pointer (some ⟨p, 0, none⟩))) (hc : Bx o w c (.int .i64 root)) (hd : Bx o w d (.int .i64 n)) (hg : Bx o w g (.int .i64 r)) (he : Ppgtbl.maE s.N s.M root n f r (Pclock.floF s.n s.C) = 0) : Calls Tryz.prog 20 #[.pointer (some ⟨a, 0, none⟩), .pointer (some ⟨b, 0, none⟩), .pointer (some ⟨c, 0, none⟩), .pointer (some ⟨d, 0, none⟩), .pointer (some ⟨g, 0, none⟩)] w fun e w' => e = .returned (.tuple #[.int .i64 f, .int .i64 0]) /\ Lv w0 w w' p o P { s with M := Ppgtbl.maM s.N s.M root n f r (Pclock.floF s.n s.C) } := by
 have HM : Hid (∀ wx, Lv w0 w wx p o P s -> Calls Tryz.prog 14 #[.pointer (some ⟨p, 0, none⟩)] wx fun e w' => e = .returned (.pointer (some ⟨P.pm, 0, none⟩)) /\ Lv w0 w w' p o P s) := fun wx hx => (gx_mem hx.fx).mono (by rintro e w' ⟨h1, h2⟩; exact ⟨h1, hx.then h2⟩)
 have HF : Hid (∀ wx, Lv w0 w wx p o P s -> Calls Tryz.prog 22 #[.pointer (some ⟨p, 0, none⟩)] wx fun e w' => e = .returned (.int .i64 (Pclock.floF s.n s.C)) /\ Lv w0 w w' p o P s) := fun wx hx => (floor_ok hx.fx).mono (by rintro e w' ⟨h1, h2⟩; exact ⟨h1, hx.then h2⟩)
 have HC : Hid (∀ wx, Lv w0 w wx p o P s -> Calls Tryz.prog 21 #[.pointer (some ⟨P.pm, 0, none⟩), .int .i64 root, .int .i64 n, .int .i64 f, .int .i64 r, .int .i64 (Pclock.floF s.n s.C)] wx fun e w' => e = .returned (.int .i64 0) /\ Lv w0 w w' p o P { s with M := Ppgtbl.maM s.N s.M root n f r (Pclock.floF s.n s.C) }) := fun wx hx => (gx_pmap root n f r _ hT hx.fx).mono (by rintro e w' ⟨h1, h2⟩; exact ⟨h1.trans (by rw [he]), hx.then h2⟩)
 have HS : Hid (∀ wx s', Lv w0 w wx p o P s' -> wx.cell? ⟨a, 0, none⟩ = some (.int .i64 f) /\ wx.cell? ⟨b, 0, none⟩ = some (.pointer (some ⟨p, 0, none⟩)) /\ wx.cell? ⟨c, 0, none⟩ = some (.int .i64 root) /\ wx.cell? ⟨d, 0, none⟩ = some (.int .i64 n) /\ wx.cell? ⟨g, 0, none⟩ = some (.int .i64 r)) := fun wx s' hx => ⟨(ha.lv hx).cell, (hb.lv hx).cell, (hc.lv hx).cell, (hd.lv hx).cell, (hg.lv hx).cell⟩
 have H0 : Hid (Lv w0 w w.drew p o P s) := (lv_refl h).on (Below.refl _ _).drew
 have kS0 := HS.out _ _ H0.out
 clear h hT ha hb hc hd hg he
 generalize { s with M := Ppgtbl.maM s.N s.M root n f r (Pclock.floF s.n s.C) } = s2 at HC ⊢
 generalize Pclock.floF s.n s.C = fl at HF HC
 go_enter Tryz.func20, Tryz.ntmps20
 go_upto_region 1 with fail
 go_region_held3 (fun x => x.cell? ⟨a, 0, none⟩ = some (.int .i64 f) /\ x.cell? ⟨b, 0, none⟩ = some (.pointer (some ⟨p, 0, none⟩)) /\ x.cell? ⟨c, 0, none⟩ = some (.int .i64 root) /\ x.cell? ⟨d, 0, none⟩ = some (.int .i64 n) /\ x.cell? ⟨g, 0, none⟩ = some (.int .i64 r)) (first | with_reducible assumption | with_reducible exact kS0 | with_reducible exact kS1 | with_reducible exact kS2 | with_reducible exact kS3 | go_keep) (first
  | (go_at_call 14; refine (HM.out _ H0.out).mono ?_; rintro e w1 ⟨rfl, hl⟩; have H1 := ghide hl; clear hl; have kS1 := HS.out _ _ H1.out)
  | (go_at_call 22; refine (HF.out _ H1.out).mono ?_; rintro e w2 ⟨rfl, hl⟩; have H2 := ghide hl; clear hl; have kS2 := HS.out _ _ H2.out)
  | (go_at_call 21; refine (HC.out _ H2.out).mono ?_; rintro e w3 ⟨rfl, hl⟩; have H3 := ghide hl; clear hl; have kS3 := HS.out _ _ H3.out)
  | fail)
 all_goals (go_wp2_with fail; go_ret2; exact ⟨rfl, H3.out⟩)
theorem doC_ok {Q1 Q2 : World -> Prop} (f : Int) (a b c d e0 e1 : Nat) (h1 : Calls Tryz.prog 28 #[.pointer (some ⟨a, 0, none⟩), .pointer (some ⟨b, 0, none⟩), .pointer (some ⟨c, 0, none⟩), .pointer (some ⟨d, 0, none⟩)] w fun e w' => e = .returned (.tuple #[.int .i64 f, .int .i64 0]) /\ Q1 w') (h2 : ∀ wx, Q1 wx -> Calls Tryz.prog 58 #[.int .i64 f, .pointer (some ⟨e0, 0, none⟩), .pointer (some ⟨e1, 0, none⟩)] wx fun e w' => e = .returned (.int .i64 0) /\ Q2 w') : Calls Tryz.prog 11 #[.func (.func 28) #[] #[.pointer (some ⟨a, 0, none⟩), .pointer (some ⟨b, 0, none⟩), .pointer (some ⟨c, 0, none⟩), .pointer (some ⟨d, 0, none⟩)], .func (.func 58) #[] #[.pointer (some ⟨e0, 0, none⟩), .pointer (some ⟨e1, 0, none⟩)]] w fun e w' => e = .returned (.tuple #[.int .i64 f, .int .i64 0]) /\ Q2 w' := by
 have HA := ghide h1
 have HB := ghide h2
 clear h1 h2
 go_enter Tryz.func11, Tryz.ntmps11
 go_wp2_with (first
  | (go_at_call 28; refine HA.out.mono ?_; rintro e w1 ⟨rfl, hl⟩; have H1 := ghide hl; clear hl HA)
  | (go_at_call 58; refine (HB.out _ H1.out).mono ?_; rintro e w2 ⟨rfl, hl⟩; have H2 := ghide hl; clear hl HB H1)
  | fail)
 go_ret2
 exact ⟨rfl, H2.out⟩
theorem doM_ok {Q1 Q2 : World -> Prop} (f : Int) (a b c d g e0 : Nat) (h1 : Calls Tryz.prog 20 #[.pointer (some ⟨a, 0, none⟩), .pointer (some ⟨b, 0, none⟩), .pointer (some ⟨c, 0, none⟩), .pointer (some ⟨d, 0, none⟩), .pointer (some ⟨g, 0, none⟩)] w fun e w' => e = .returned (.tuple #[.int .i64 f, .int .i64 0]) /\ Q1 w') (h2 : ∀ wx, Q1 wx -> Calls Tryz.prog 52 #[.int .i64 f, .pointer (some ⟨e0, 0, none⟩)] wx fun e w' => e = .returned (.int .i64 0) /\ Q2 w') : Calls Tryz.prog 11 #[.func (.func 20) #[] #[.pointer (some ⟨a, 0, none⟩), .pointer (some ⟨b, 0, none⟩), .pointer (some ⟨c, 0, none⟩), .pointer (some ⟨d, 0, none⟩), .pointer (some ⟨g, 0, none⟩)], .func (.func 52) #[] #[.pointer (some ⟨e0, 0, none⟩)]] w fun e w' => e = .returned (.tuple #[.int .i64 f, .int .i64 0]) /\ Q2 w' := by
 have HA := ghide h1
 have HB := ghide h2
 clear h1 h2
 go_enter Tryz.func11, Tryz.ntmps11
 go_wp2_with (first
  | (go_at_call 20; refine HA.out.mono ?_; rintro e w1 ⟨rfl, hl⟩; have H1 := ghide hl; clear hl HA)
  | (go_at_call 52; refine (HB.out _ H1.out).mono ?_; rintro e w2 ⟨rfl, hl⟩; have H2 := ghide hl; clear hl HB H1)
  | fail)
 go_ret2
 exact ⟨rfl, H2.out⟩
theorem pcons_ok (root high f : Int) (h : Fx w0 w p o P s) (hT : Tz w0) (hne : root ≠ f) (hc : (Ptyp.toldA s.N s.T f).cnt < 1000) (he : Ppgtbl.coE s.N s.M root high f (Pclock.floF s.n s.C) = 0) (hr : Ptyp.errA s.N s.T f Ptyp.hRf = 0) : Calls Tryz.prog 8 #[.pointer (some ⟨p, 0, none⟩), .int .i64 root, .int .i64 high, .int .i64 f] w fun e w' => e = .returned (.int .i64 0) /\ Lv w0 w w' p o P { s with M := Ppgtbl.coM s.N s.M root high f (Pclock.floF s.n s.C), T := Ptyp.mapA s.N s.T f Ptyp.gRf } := by
 have HX := ghide (box4 h (.pointer (some ⟨p, 0, none⟩)) (.int .i64 root) (.int .i64 high) (.int .i64 f) 35 3 3 3)
 have HMy : Hid (∀ wx, Fx w0 wx p o P s -> Calls Tryz.prog 26 #[.pointer (some ⟨p, 0, none⟩), .int .i64 root, .int .i64 f] wx fun e w' => e = .returned (.int .i64 0) /\ Lv w0 wx w' p o P s) := fun wx hx => maycons_ok root f hx hne hc
 have HKp : Hid (∀ wx a, Fx w0 wx p o P s -> Calls Tryz.prog 27 #[.pointer (some ⟨p, 0, none⟩), .int .i64 root, .int .i64 a] wx fun e w' => ∃ A B C D, e = .returned (.func (.func 56) #[] #[.pointer (some ⟨A, 0, none⟩), .pointer (some ⟨B, 0, none⟩), .pointer (some ⟨C, 0, none⟩), .pointer (some ⟨D, 0, none⟩)]) /\ Lv w0 wx w' p o P s) := fun wx a hx => keep_ok root a hx
 have HMo : Hid (∀ wx, Fx w0 wx p o P s -> Calls Tryz.prog 23 #[.pointer (some ⟨p, 0, none⟩)] wx fun e w' => ∃ A, e = .returned (.func (.func 52) #[] #[.pointer (some ⟨A, 0, none⟩)]) /\ Bx o w' A (.pointer (some ⟨p, 0, none⟩)) /\ Lv w0 wx w' p o P s) := fun wx hx => more_ok hx
 have HOr : Hid (∀ wx A a b c d, Fx w0 wx p o P s -> Calls Tryz.prog 30 #[.func (.func 52) #[] #[.pointer (some ⟨A, 0, none⟩)], .func (.func 56) #[] #[.pointer (some ⟨a, 0, none⟩), .pointer (some ⟨b, 0, none⟩), .pointer (some ⟨c, 0, none⟩), .pointer (some ⟨d, 0, none⟩)]] wx fun e w' => ∃ E F, e = .returned (.func (.func 58) #[] #[.pointer (some ⟨E, 0, none⟩), .pointer (some ⟨F, 0, none⟩)]) /\ Bx o w' E (.func (.func 52) #[] #[.pointer (some ⟨A, 0, none⟩)]) /\ Lv w0 wx w' p o P s) := fun wx A a b c d hx => orelse_ok A a b c d hx
 have HDo : Hid (∀ wx A E F a b c d, Fx w0 wx p o P s -> Bx o wx A (.pointer (some ⟨p, 0, none⟩)) -> Bx o wx E (.func (.func 52) #[] #[.pointer (some ⟨A, 0, none⟩)]) -> Bx o wx a (.int .i64 f) -> Bx o wx b (.pointer (some ⟨p, 0, none⟩)) -> Bx o wx c (.int .i64 root) -> Bx o wx d (.int .i64 high) -> Calls Tryz.prog 11 #[.func (.func 28) #[] #[.pointer (some ⟨a, 0, none⟩), .pointer (some ⟨b, 0, none⟩), .pointer (some ⟨c, 0, none⟩), .pointer (some ⟨d, 0, none⟩)], .func (.func 58) #[] #[.pointer (some ⟨E, 0, none⟩), .pointer (some ⟨F, 0, none⟩)]] wx fun e w' => e = .returned (.tuple #[.int .i64 f, .int .i64 0]) /\ Lv w0 wx w' p o P { s with M := Ppgtbl.coM s.N s.M root high f (Pclock.floF s.n s.C), T := Ptyp.mapA s.N s.T f Ptyp.gRf }) := fun wx A E F a b c d hx hA hE ha hb hc hd =>
  doC_ok (Q1 := fun w1 => Lv w0 wx w1 p o P { s with M := Ppgtbl.coM s.N s.M root high f (Pclock.floF s.n s.C) }) f a b c d E F (cons1_ok root high f a b c d hx hT ha hb hc hd he) (fun w1 h1 => (orelse1_ok f E F h1.fx (hE.lv h1) (hA.lv h1) hr).mono fun _ _ ⟨g1, g2⟩ => ⟨g1, h1.then g2⟩)
 clear h hT hne hc he hr
 generalize { s with M := Ppgtbl.coM s.N s.M root high f (Pclock.floF s.n s.C), T := Ptyp.mapA s.N s.T f Ptyp.gRf } = s2 at HDo ⊢
 go_enter Tryz.func8, Tryz.ntmps8
 go_upto_region 1 with fail
 generalize (((w.alloc _).alloc _).alloc _).alloc _ = W at HX ⊢
 generalize hA : w.heap.size = A at HX ⊢
 generalize hB : A + 1 = B at HX ⊢
 generalize hC : B + 1 = C at HX ⊢
 generalize hD : C + 1 = D at HX ⊢
 have HS : Hid (∀ x s', Lv w0 W x p o P s' -> x.cell? ⟨A, 0, none⟩ = some (.pointer (some ⟨p, 0, none⟩)) /\ x.cell? ⟨B, 0, none⟩ = some (.int .i64 root) /\ x.cell? ⟨C, 0, none⟩ = some (.int .i64 high) /\ x.cell? ⟨D, 0, none⟩ = some (.int .i64 f)) := fun x s' hx => ⟨(HX.out.2.1.lv hx).cell, (HX.out.2.2.1.lv hx).cell, (HX.out.2.2.2.1.lv hx).cell, (HX.out.2.2.2.2.lv hx).cell⟩
 have H0 : Hid (Lv w0 W W p o P s) := lv_refl HX.out.1.fx
 obtain ⟨a0, a1, a2, a3⟩ := HS.out _ _ H0.out
 go_wp2_with (first
  | (go_at_call 26; refine (HMy.out _ H0.out.fx).mono ?_; rintro e w1 ⟨rfl, hl⟩; have H1 := ghide (H0.out.then hl); clear hl H0 HMy a0 a1 a2 a3; obtain ⟨b0, b1, b2, b3⟩ := HS.out _ _ H1.out)
  | (go_at_call 27; refine (HKp.out _ _ H1.out.fx).mono ?_; rintro e w2 ⟨k0, k1, k2, k3, rfl, hl⟩; have H2 := ghide (H1.out.then hl); clear hl H1 HKp b0 b1 b2 b3; obtain ⟨c0, c1, c2, c3⟩ := HS.out _ _ H2.out)
  | (go_at_call 23; refine (HMo.out _ H2.out.fx).mono ?_; rintro e w3 ⟨q0, rfl, hq, hl⟩; have H3 := ghide (H2.out.then hl); have HQ := ghide hq; clear hl hq H2 HMo c0 c1 c2 c3)
  | (go_at_call 30; refine (HOr.out _ _ _ _ _ _ H3.out.fx).mono ?_; rintro e w4 ⟨q1, q2, rfl, hq, hl⟩; have H4 := ghide (H3.out.then hl); have HQ2 := ghide hq; have HQ1 := ghide (HQ.out.lv hl); clear hl hq H3 HOr HQ)
  | (go_at_call 11; refine (HDo.out _ _ _ _ _ _ _ _ H4.out.fx HQ1.out HQ2.out (HX.out.2.2.2.2.lv H4.out) (HX.out.2.1.lv H4.out) (HX.out.2.2.1.lv H4.out) (HX.out.2.2.2.1.lv H4.out)).mono ?_; rintro e w5 ⟨rfl, hl⟩; have H5 := ghide (H4.out.then hl); clear hl H4 HDo)
  | fail)
 go_ret
 exact ⟨rfl, HX.out.1.then H5.out⟩
theorem pmap_ok (root n f r : Int) (h : Fx w0 w p o P s) (hT : Tz w0) (hi : (Ptyp.toldA s.N s.T f).is = 1) (hc : (Ptyp.toldA s.N s.T f).cnt < 1000) (he : Ppgtbl.maE s.N s.M root n f r (Pclock.floF s.n s.C) = 0) (hr : Ptyp.errA s.N s.T f Ptyp.hRf = 0) : Calls Tryz.prog 6 #[.pointer (some ⟨p, 0, none⟩), .int .i64 root, .int .i64 n, .int .i64 f, .int .i64 r] w fun e w' => e = .returned (.int .i64 0) /\ Lv w0 w w' p o P { s with M := Ppgtbl.maM s.N s.M root n f r (Pclock.floF s.n s.C), T := Ptyp.mapA s.N s.T f Ptyp.gRf } := by
 have HX := ghide (box5 h (.pointer (some ⟨p, 0, none⟩)) (.int .i64 root) (.int .i64 n) (.int .i64 f) (.int .i64 r) 35 3 3 3 3)
 have HMy : Hid (∀ wx, Fx w0 wx p o P s -> Calls Tryz.prog 19 #[.pointer (some ⟨p, 0, none⟩), .int .i64 f] wx fun e w' => e = .returned (.int .i64 0) /\ Lv w0 wx w' p o P s) := fun wx hx => maymap_ok f hx hi hc
 have HMo : Hid (∀ wx, Fx w0 wx p o P s -> Calls Tryz.prog 23 #[.pointer (some ⟨p, 0, none⟩)] wx fun e w' => ∃ A, e = .returned (.func (.func 52) #[] #[.pointer (some ⟨A, 0, none⟩)]) /\ Bx o w' A (.pointer (some ⟨p, 0, none⟩)) /\ Lv w0 wx w' p o P s) := fun wx hx => more_ok hx
 have HDo : Hid (∀ wx A a b c d g, Fx w0 wx p o P s -> Bx o wx A (.pointer (some ⟨p, 0, none⟩)) -> Bx o wx a (.int .i64 f) -> Bx o wx b (.pointer (some ⟨p, 0, none⟩)) -> Bx o wx c (.int .i64 root) -> Bx o wx d (.int .i64 n) -> Bx o wx g (.int .i64 r) -> Calls Tryz.prog 11 #[.func (.func 20) #[] #[.pointer (some ⟨a, 0, none⟩), .pointer (some ⟨b, 0, none⟩), .pointer (some ⟨c, 0, none⟩), .pointer (some ⟨d, 0, none⟩), .pointer (some ⟨g, 0, none⟩)], .func (.func 52) #[] #[.pointer (some ⟨A, 0, none⟩)]] wx fun e w' => e = .returned (.tuple #[.int .i64 f, .int .i64 0]) /\ Lv w0 wx w' p o P { s with M := Ppgtbl.maM s.N s.M root n f r (Pclock.floF s.n s.C), T := Ptyp.mapA s.N s.T f Ptyp.gRf }) := fun wx A a b c d g hx hA ha hb hc hd hg =>
  doM_ok (Q1 := fun w1 => Lv w0 wx w1 p o P { s with M := Ppgtbl.maM s.N s.M root n f r (Pclock.floF s.n s.C) }) f a b c d g A (map1_ok root n f r a b c d g hx hT ha hb hc hd hg he) (fun w1 h1 => (more1_ok f h1.fx (hA.lv h1) hr).mono fun _ _ ⟨g1, g2⟩ => ⟨g1, h1.then g2⟩)
 clear h hT hi hc he hr
 generalize { s with M := Ppgtbl.maM s.N s.M root n f r (Pclock.floF s.n s.C), T := Ptyp.mapA s.N s.T f Ptyp.gRf } = s2 at HDo ⊢
 go_enter Tryz.func6, Tryz.ntmps6
 go_upto_region 1 with fail
 generalize ((((w.alloc _).alloc _).alloc _).alloc _).alloc _ = W at HX ⊢
 generalize hA : w.heap.size = A at HX ⊢
 generalize hB : A + 1 = B at HX ⊢
 generalize hC : B + 1 = C at HX ⊢
 generalize hD : C + 1 = D at HX ⊢
 generalize hE : D + 1 = E at HX ⊢
 have HS : Hid (∀ x s', Lv w0 W x p o P s' -> x.cell? ⟨A, 0, none⟩ = some (.pointer (some ⟨p, 0, none⟩)) /\ x.cell? ⟨D, 0, none⟩ = some (.int .i64 f)) := fun x s' hx => ⟨(HX.out.2.1.lv hx).cell, (HX.out.2.2.2.2.1.lv hx).cell⟩
 have H0 : Hid (Lv w0 W W p o P s) := lv_refl HX.out.1.fx
 obtain ⟨a0, a1⟩ := HS.out _ _ H0.out
 go_wp2_with (first
  | (go_at_call 19; refine (HMy.out _ H0.out.fx).mono ?_; rintro e w1 ⟨rfl, hl⟩; have H1 := ghide (H0.out.then hl); clear hl H0 HMy a0 a1; obtain ⟨b0, b1⟩ := HS.out _ _ H1.out)
  | (go_at_call 23; refine (HMo.out _ H1.out.fx).mono ?_; rintro e w3 ⟨q0, rfl, hq, hl⟩; have H3 := ghide (H1.out.then hl); have HQ := ghide hq; clear hl hq H1 HMo b0 b1)
  | (go_at_call 11; refine (HDo.out _ _ _ _ _ _ _ H3.out.fx HQ.out (HX.out.2.2.2.2.1.lv H3.out) (HX.out.2.1.lv H3.out) (HX.out.2.2.1.lv H3.out) (HX.out.2.2.2.1.lv H3.out) (HX.out.2.2.2.2.2.lv H3.out)).mono ?_; rintro e w5 ⟨rfl, hl⟩; have H5 := ghide (H3.out.then hl); clear hl H3 HDo)
  | fail)
 go_ret
 exact ⟨rfl, HX.out.1.then H5.out⟩
end
end Pbpag
end Go.Proofs.YtkkclcihjojphaaGreatDoor
