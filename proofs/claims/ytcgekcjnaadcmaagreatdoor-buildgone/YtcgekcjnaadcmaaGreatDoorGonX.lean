/- Untype for each kind of object (written by mk_gx.py). -/
import Derived.Test.YtcgekcjnaadcmaaGreatDoorGonU
import Derived.Test.YtcgekcjnaadcmaaGreatDoorGonV
import Derived.Test.YtcgekcjnaadcmaaGreatDoorGonL
namespace Go.Proofs.YtcgekcjnaadcmaaGreatDoor.Pbuild
open Go.Proofs.YtcgekcjnaadcmaaGreatDoor.Pbase Go.Proofs.YtcgekcjnaadcmaaGreatDoor.Pchold Go.Proofs.YtcgekcjnaadcmaaGreatDoor.Pfind Go.Proofs.YtcgekcjnaadcmaaGreatDoor.Play Go.Proofs.YtcgekcjnaadcmaaGreatDoor.Pmem Go.Proofs.YtcgekcjnaadcmaaGreatDoor.Pmst Go.Proofs.YtcgekcjnaadcmaaGreatDoor.Ppmach Go.Proofs.YtcgekcjnaadcmaaGreatDoor.Ptint
open Go.RowKit Go.Shelf
set_option linter.unusedVariables false
set_option linter.unusedSimpArgs false

section
variable {w0 w : World} {p : Nat} {o : Nat → Nat} {P : Pq} {s : St}
theorem unt_busyN (f K : Int) (pg : Bool) (h : Fx w0 w p o P s) (hty : (Ptyp.toldA s.N s.T f).is = 2) (hgE : Phead.ghE s.N s.M f = 0) (hgK : Phead.ghK s.N s.M f = K) (hpg : (K == 2) = pg) (he : Ptyp.errA s.N s.T f Ptyp.hUt = 10) (HD : ∀ wx, Fx w0 wx p o P s → Calls Tryz.prog 50 #[.pointer (some ⟨p, 0, none⟩), .int .i64 f, .int .i64 K] wx fun e w' => e = .returned (.tuple #[.func (.func 47) #[] #[], .bool true]) ∧ Lv w0 wx w' p o P s) : Calls Tryz.prog 12 #[.pointer (some ⟨p, 0, none⟩), .int .i64 f] w fun e w' => e = .returned (.int .i64 10) ∧ Lv w0 w w' p o P { s with T := Ptyp.mapA s.N s.T f (Ptyp.gUt s.C.now pg) } :=
  untype_busy f K h hty hgE hgK pg hpg 10 he (by decide) 47 (fun lb _ => lb = #[]) (fun _ _ _ _ e _ => e) (fun wx hx => (HD wx hx.fx).mono (by rintro e w' ⟨h1, h2⟩; exact ⟨#[], h1, h2, rfl⟩))
theorem unt_yesN (f K : Int) (pg : Bool) (h : Fx w0 w p o P s) (hty : (Ptyp.toldA s.N s.T f).is = 2) (hgE : Phead.ghE s.N s.M f = 0) (hgK : Phead.ghK s.N s.M f = K) (hpg : (K == 2) = pg) (he : Ptyp.errA s.N s.T f Ptyp.hUt = 0) (HD : ∀ wx, Fx w0 wx p o P s → Calls Tryz.prog 50 #[.pointer (some ⟨p, 0, none⟩), .int .i64 f, .int .i64 K] wx fun e w' => e = .returned (.tuple #[.func (.func 47) #[] #[], .bool true]) ∧ Lv w0 wx w' p o P s) : Calls Tryz.prog 12 #[.pointer (some ⟨p, 0, none⟩), .int .i64 f] w fun e w' => e = .returned (.int .i64 0) ∧ Lv w0 w w' p o P { s with T := Ptyp.mapA s.N s.T f (Ptyp.gUt s.C.now pg) } :=
  untype_yes f K h hty hgE hgK pg hpg he 47 (fun lb _ => lb = #[]) (fun _ _ _ _ e _ => e) (fun wx hx => (HD wx hx.fx).mono (by rintro e w' ⟨h1, h2⟩; exact ⟨#[], h1, h2, rfl⟩)) { s with T := Ptyp.mapA s.N s.T f (Ptyp.gUt s.C.now pg) } (fun wx Ba Bm lb hx hm hn e ha => by subst e; exact untakeN hx.fx hm hn ha)
theorem unt_noC (f : Int) (h : Fx w0 w p o P s) (hty : (Ptyp.toldA s.N s.T f).is = 2) (hgE : Phead.ghE s.N s.M f = 0) (hgK : Phead.ghK s.N s.M f = 3) (hT : Tz w0) (hb : (fcE s f == 7) = false) : Calls Tryz.prog 12 #[.pointer (some ⟨p, 0, none⟩), .int .i64 f] w fun e w' => e = .returned (.int .i64 10) ∧ Lv w0 w w' p o P s :=
  untype_no f 3 h hty hgE hgK (fun wx hx => (done3 f hx.fx hT).mono (by rintro e w' ⟨h1, h2⟩; rw [hb] at h1; exact ⟨_, h1, h2⟩))
theorem unt_noT (f : Int) (h : Fx w0 w p o P s) (hty : (Ptyp.toldA s.N s.T f).is = 2) (hgE : Phead.ghE s.N s.M f = 0) (hgK : Phead.ghK s.N s.M f = 4) (t : Pthd.Th) (he : Pthd.gtE s.N s.M f = 0) (ht : Pthd.gtT s.N s.M f = t) (hb : (t.st == 3) = false) : Calls Tryz.prog 12 #[.pointer (some ⟨p, 0, none⟩), .int .i64 f] w fun e w' => e = .returned (.int .i64 10) ∧ Lv w0 w w' p o P s :=
  untype_no f 4 h hty hgE hgK (fun wx hx => (done4 f t false hx.fx he ht hb).mono (by rintro e w' ⟨A, h1, h2, _, _⟩; exact ⟨_, h1, h2⟩))
theorem unt_yesT (f : Int) (h : Fx w0 w p o P s) (hty : (Ptyp.toldA s.N s.T f).is = 2) (hgE : Phead.ghE s.N s.M f = 0) (hgK : Phead.ghK s.N s.M f = 4) (t : Pthd.Th) (hd : Pthd.gtE s.N s.M f = 0) (ht : Pthd.gtT s.N s.M f = t) (hb : (t.st == 3) = true) (he : Ptyp.errA s.N s.T f Ptyp.hUt = 0) : Calls Tryz.prog 12 #[.pointer (some ⟨p, 0, none⟩), .int .i64 f] w fun e w' => e = .returned (.int .i64 0) ∧ Lv w0 w w' p o P { s with T := unrL s.N s.C.now (Ptyp.mapA s.N s.T f (Ptyp.gUt s.C.now false)) (ndT t) } :=
  untype_yes f 4 h hty hgE hgK false (by decide) he 105 (fun lb x => ∃ A, lb = #[.pointer (some ⟨A, 0, none⟩)] ∧ w.heap.size ≤ A ∧ RowB x A 78 #[.int .i64 t.st, .int .i64 t.co, .int .i64 t.tc, .int .i64 t.rc, .int .i64 t.de]) (fun lb x y s' ⟨A, e, hA, hr⟩ g => ⟨A, e, hA, g.row hr (fx_new h hA)⟩) (fun wx hx => (done4 f t true hx.fx hd ht hb).mono (by rintro e w' ⟨A, h1, h2, h3, h4⟩; exact ⟨_, h1, h2, A, rfl, Nat.le_trans hx.size h3, h4⟩)) { s with T := unrL s.N s.C.now (Ptyp.mapA s.N s.T f (Ptyp.gUt s.C.now false)) (ndT t) } (fun wx Ba Bm lb hx hm hn ⟨A, e, hA, hr⟩ ha => by subst e; exact untakeT t hx.fx hm hn (fx_new h hA) hr ha)
theorem unt_yesR (f : Int) (h : Fx w0 w p o P s) (hty : (Ptyp.toldA s.N s.T f).is = 2) (hgE : Phead.ghE s.N s.M f = 0) (hgK : Phead.ghK s.N s.M f = 6) (t : Pqrcv.Rv) (hT : Tz w0) (hd : Pqrcv.vgE s.N s.M f = 0) (ht : Pqrcv.vgX s.N s.M f = t) (hw : t.wa = false) (hh : Phw.hsN s.H f = 0) (he : Ptyp.errA s.N s.T f Ptyp.hUt = 0) : Calls Tryz.prog 12 #[.pointer (some ⟨p, 0, none⟩), .int .i64 f] w fun e w' => e = .returned (.int .i64 0) ∧ Lv w0 w w' p o P { s with T := unrL s.N s.C.now (Ptyp.mapA s.N s.T f (Ptyp.gUt s.C.now false)) (ndR t) } :=
  untype_yes f 6 h hty hgE hgK false (by decide) he 111 (fun lb x => ∃ A, lb = #[.pointer (some ⟨A, 0, none⟩)] ∧ w.heap.size ≤ A ∧ RowB x A 40 #[.int .i64 t.th, .int .i64 t.pa, .int .i64 t.co, .bool t.wa, .int .i64 t.lo]) (fun lb x y s' ⟨A, e, hA, hr⟩ g => ⟨A, e, hA, g.row hr (fx_new h hA)⟩) (fun wx hx => (done6 f t hx.fx hT hd ht hw hh).mono (by rintro e w' ⟨A, h1, h2, h3, h4⟩; exact ⟨_, h1, h2, A, rfl, Nat.le_trans hx.size h3, h4⟩)) { s with T := unrL s.N s.C.now (Ptyp.mapA s.N s.T f (Ptyp.gUt s.C.now false)) (ndR t) } (fun wx Ba Bm lb hx hm hn ⟨A, e, hA, hr⟩ ha => by subst e; exact untakeR t hx.fx hm hn (fx_new h hA) hr ha)
theorem unt_busyR (f : Int) (h : Fx w0 w p o P s) (hty : (Ptyp.toldA s.N s.T f).is = 2) (hgE : Phead.ghE s.N s.M f = 0) (hgK : Phead.ghK s.N s.M f = 6) (t : Pqrcv.Rv) (hT : Tz w0) (hd : Pqrcv.vgE s.N s.M f = 0) (ht : Pqrcv.vgX s.N s.M f = t) (hw : t.wa = false) (hh : Phw.hsN s.H f = 0) (he : Ptyp.errA s.N s.T f Ptyp.hUt = 10) : Calls Tryz.prog 12 #[.pointer (some ⟨p, 0, none⟩), .int .i64 f] w fun e w' => e = .returned (.int .i64 10) ∧ Lv w0 w w' p o P { s with T := Ptyp.mapA s.N s.T f (Ptyp.gUt s.C.now false) } :=
  untype_busy f 6 h hty hgE hgK false (by decide) 10 he (by decide) 111 (fun lb x => ∃ A, lb = #[.pointer (some ⟨A, 0, none⟩)] ∧ w.heap.size ≤ A ∧ RowB x A 40 #[.int .i64 t.th, .int .i64 t.pa, .int .i64 t.co, .bool t.wa, .int .i64 t.lo]) (fun lb x y s' ⟨A, e, hA, hr⟩ g => ⟨A, e, hA, g.row hr (fx_new h hA)⟩) (fun wx hx => (done6 f t hx.fx hT hd ht hw hh).mono (by rintro e w' ⟨A, h1, h2, h3, h4⟩; exact ⟨_, h1, h2, A, rfl, Nat.le_trans hx.size h3, h4⟩))
/-- What is needed, asked by a test. -/
def hdB (s : St) (x : Int × Int) : Bool := decide (Phead.ghE s.N s.M x.1 = 0) && decide (Phead.ghK s.N s.M x.1 = x.2) && decide (Phead.ghL s.N s.M x.1 = 0)
def rmB (s : St) (x : Int × Int) : Bool := decide ((Ptyp.toldA s.N s.T x.1).is = 2) && decide ((Ptyp.toldA s.N s.T x.1).cnt < 1000)
theorem hd_all {l : List (Int × Int)} (h : l.all (hdB s) = true) : ∀ x ∈ l, hdG s x := fun x hx => by
  have := List.all_eq_true.1 h x hx
  unfold hdB at this
  simp only [Bool.and_eq_true, decide_eq_true_eq] at this
  exact ⟨this.1.1, this.1.2, this.2⟩
theorem rm_all {l : List (Int × Int)} (h : l.all (rmB s) = true) : ∀ x ∈ l, rmG s x := fun x hx => by
  have := List.all_eq_true.1 h x hx
  unfold rmB at this
  simp only [Bool.and_eq_true, decide_eq_true_eq] at this
  exact ⟨this.1, this.2⟩
end
end Go.Proofs.YtcgekcjnaadcmaaGreatDoor.Pbuild
