import Derived.Test.YtkkclcihjojphaaGreatDoorGonL
import Derived.Test.YtkkclcihjojphaaGreatDoorGonC
set_option linter.unusedVariables false
set_option linter.unusedSimpArgs false
set_option maxRecDepth 100000
set_option maxHeartbeats 20000000
namespace Go.Proofs.YtkkclcihjojphaaGreatDoor
namespace Pbpag
open Pbase Pchold Pfind Play Pmem Pmst Ppmach Ptint Go.RowKit Go.Shelf
section
variable {w0 w : World} {p : Nat} {o : Nat -> Nat} {P : Pq} {s : St}
theorem bthd_ok (f c a b : Int) (h : Fx w0 w p o P s) (hT : Tz w0) (hc : Pthd.Fi ⟨0, 0, a, b, 0⟩) (hf : frshE s f = 0) (hi : fcE s c = 0) (hg : ∀ x ∈ ndT ⟨0, 0, a, b, 0⟩, hdG s x) (hm : ∀ x ∈ ndT ⟨0, 0, a, b, 0⟩, rmG s x) (hk : Pthd.mkE s.N f ⟨0, 0, a, b, 0⟩ = 0) (hp : Pstack.psE s.N (Pthd.mkM s.N s.M f ⟨0, 0, a, b, 0⟩) f ⟨c, (fcC s c).tb, (fcC s c).pg, (fcC s c).l, (fcC s c).e, 0⟩ = 0) : Calls Tryz.prog 70 #[.pointer (some ⟨p, 0, none⟩), .int .i64 f, .int .i64 c, .int .i64 a, .int .i64 b] w fun e w' => e = .returned (.int .i64 0) /\ Lv w0 w w' p o P { s with T := refL s.N s.T (ndT ⟨0, 0, a, b, 0⟩), M := Pstack.psM s.N (Pthd.mkM s.N s.M f ⟨0, 0, a, b, 0⟩) f ⟨c, (fcC s c).tb, (fcC s c).pg, (fcC s c).l, (fcC s c).e, 0⟩ } := by
 have hown : ∀ B, w.heap.size <= B -> ¬ PMine o B := fun B hB => fx_new h hB
 have HFC : Hid (∀ wx, Below w.heap.size w wx -> Calls Tryz.prog 122 #[.pointer (some ⟨p, 0, none⟩), .int .i64 c] wx fun e w' => e = .returned (.tuple #[.agg #[.int .i64 (fcC s c).tb, .int .i64 (fcC s c).pg, .int .i64 (fcC s c).l, .int .i64 (fcC s c).e, .int .i64 (fcC s c).fa, .int .i64 (fcC s c).wh], .int .i64 0]) /\ Below wx.heap.size wx w') := fun wx hx => by have := fcomp_any c hT (h.on hx); rw [hi] at this; exact this
 have HF : Hid (∀ wx, Below w.heap.size w wx -> Calls Tryz.prog 99 #[.pointer (some ⟨p, 0, none⟩), .int .i64 f] wx fun e w' => e = .returned (.int .i64 0) /\ Below wx.heap.size wx w') := fun wx hx => by have := fresh_any f (h.on hx); rwa [hf] at this
 have HRt : Hid (∀ wx A, Below w.heap.size w wx -> RowB wx A 178 #[.int .i64 0, .int .i64 0, .int .i64 a, .int .i64 b, .int .i64 0] -> Calls Tryz.prog 106 #[.pointer (some ⟨p, 0, none⟩), .func (.func 199) #[] #[.pointer (some ⟨A, 0, none⟩)]] wx fun e w' => e = .returned (.int .i64 0) /\ Below wx.heap.size wx w') := fun wx A hx hr => rightT ⟨0, 0, a, b, 0⟩ (h.on hx) hr hg
 have HRm : Hid (∀ wx A, Below w.heap.size w wx -> RowB wx A 178 #[.int .i64 0, .int .i64 0, .int .i64 a, .int .i64 b, .int .i64 0] -> Calls Tryz.prog 108 #[.pointer (some ⟨p, 0, none⟩), .func (.func 199) #[] #[.pointer (some ⟨A, 0, none⟩)]] wx fun e w' => e = .returned (.int .i64 0) /\ Below wx.heap.size wx w') := fun wx A hx hr => roomT ⟨0, 0, a, b, 0⟩ (h.on hx) hr hm
 have HMm : Hid (∀ wx s', Lv w0 w wx p o P s' -> Calls Tryz.prog 14 #[.pointer (some ⟨p, 0, none⟩)] wx fun e w' => e = .returned (.pointer (some ⟨P.pm, 0, none⟩)) /\ Lv w0 w w' p o P s' /\ Lv w0 wx w' p o P s') := fun wx s' hx => (gx_mem hx.fx).mono (by rintro e w' ⟨h1, h2⟩; exact ⟨h1, hx.then h2, h2⟩)
 have HTk : Hid (∀ wx A, Lv w0 w wx p o P s -> w.heap.size <= A -> RowB wx A 178 #[.int .i64 0, .int .i64 0, .int .i64 a, .int .i64 b, .int .i64 0] -> Calls Tryz.prog 111 #[.pointer (some ⟨p, 0, none⟩), .func (.func 199) #[] #[.pointer (some ⟨A, 0, none⟩)]] wx fun e w' => (∃ v, e = .returned v) /\ Lv w0 w w' p o P { s with T := refL s.N s.T (ndT ⟨0, 0, a, b, 0⟩) } /\ Lv w0 wx w' p o P { s with T := refL s.N s.T (ndT ⟨0, 0, a, b, 0⟩) }) := fun wx A hx hA hr => (takeT ⟨0, 0, a, b, 0⟩ hx.fx (hown A hA) hr).mono (by rintro e w' ⟨h1, h2⟩; exact ⟨h1, hx.then h2, h2⟩)
 have HMk : Hid (∀ wx, Lv w0 w wx p o P { s with T := refL s.N s.T (ndT ⟨0, 0, a, b, 0⟩) } -> Calls Tryz.prog 124 #[.pointer (some ⟨P.pm, 0, none⟩), .int .i64 f, .agg #[.int .i64 0, .int .i64 0, .int .i64 a, .int .i64 b, .int .i64 0]] wx fun e w' => e = .returned (.int .i64 0) /\ Lv w0 w w' p o P { s with T := refL s.N s.T (ndT ⟨0, 0, a, b, 0⟩), M := Pthd.mkM s.N s.M f ⟨0, 0, a, b, 0⟩ } /\ Lv w0 wx w' p o P { s with T := refL s.N s.T (ndT ⟨0, 0, a, b, 0⟩), M := Pthd.mkM s.N s.M f ⟨0, 0, a, b, 0⟩ }) := fun wx hx => (gx_thmake f ⟨0, 0, a, b, 0⟩ hc hx.fx).mono (by rintro e w' ⟨h1, h2⟩; exact ⟨by rw [h1]; exact congrArg _ (congrArg _ hk), hx.then h2, h2⟩)
 have HPs : Hid (∀ wx, Lv w0 w wx p o P { s with T := refL s.N s.T (ndT ⟨0, 0, a, b, 0⟩), M := Pthd.mkM s.N s.M f ⟨0, 0, a, b, 0⟩ } -> Calls Tryz.prog 125 #[.pointer (some ⟨P.pm, 0, none⟩), .int .i64 f, .agg #[.int .i64 c, .int .i64 (fcC s c).tb, .int .i64 (fcC s c).pg, .int .i64 (fcC s c).l, .int .i64 (fcC s c).e, .int .i64 0]] wx fun e w' => e = .returned (.int .i64 0) /\ Lv w0 w w' p o P { s with T := refL s.N s.T (ndT ⟨0, 0, a, b, 0⟩), M := Pstack.psM s.N (Pthd.mkM s.N s.M f ⟨0, 0, a, b, 0⟩) f ⟨c, (fcC s c).tb, (fcC s c).pg, (fcC s c).l, (fcC s c).e, 0⟩ } /\ Lv w0 wx w' p o P { s with T := refL s.N s.T (ndT ⟨0, 0, a, b, 0⟩), M := Pstack.psM s.N (Pthd.mkM s.N s.M f ⟨0, 0, a, b, 0⟩) f ⟨c, (fcC s c).tb, (fcC s c).pg, (fcC s c).l, (fcC s c).e, 0⟩ }) := fun wx hx => (gx_push f ⟨c, (fcC s c).tb, (fcC s c).pg, (fcC s c).l, (fcC s c).e, 0⟩ hT hx.fx).mono (by rintro e w' ⟨h1, h2⟩; exact ⟨by rw [h1]; exact congrArg _ (congrArg _ hp), hx.then h2, h2⟩)
 have H := ghide h
 clear h hf hg hm hc hT hi hk hp
 generalize { s with T := refL s.N s.T (ndT ⟨0, 0, a, b, 0⟩), M := Pstack.psM s.N (Pthd.mkM s.N s.M f ⟨0, 0, a, b, 0⟩) f ⟨c, (fcC s c).tb, (fcC s c).pg, (fcC s c).l, (fcC s c).e, 0⟩ } = s4 at HPs ⊢
 generalize { s with T := refL s.N s.T (ndT ⟨0, 0, a, b, 0⟩), M := Pthd.mkM s.N s.M f ⟨0, 0, a, b, 0⟩ } = s3 at HMk HPs
 generalize { s with T := refL s.N s.T (ndT ⟨0, 0, a, b, 0⟩) } = s2 at HTk HMk
 generalize (fcC s c).tb = I0 at HFC HPs
 generalize (fcC s c).pg = I1 at HFC HPs
 generalize (fcC s c).l = I2 at HFC HPs
 generalize (fcC s c).e = I3 at HFC HPs
 generalize (fcC s c).fa = I4 at HFC
 generalize (fcC s c).wh = I5 at HFC
 have HV0 : Hid (Below w.heap.size w (w.alloc (.cells #[.int .i64 0, .int .i64 0, .int .i64 a, .int .i64 b, .int .i64 0] 178))) := bal (Below.refl _ _) _
 have HVC : Hid (RowB (w.alloc (.cells #[.int .i64 0, .int .i64 0, .int .i64 a, .int .i64 b, .int .i64 0] 178)) w.heap.size 178 #[.int .i64 0, .int .i64 0, .int .i64 a, .int .i64 b, .int .i64 0]) := ghide (heap_alloc_new w _)
 go_enter Tryz.func70, Tryz.ntmps70
 go_upto_region 2 with fail
 generalize w.alloc _ = V at HV0 HVC ⊢
 go_upto_region 3 with (first
  | (go_at_call 122; refine (HFC.out _ HV0.out).mono ?_; rintro e y0 ⟨rfl, hb⟩; have HY := ghide (HV0.out.trans (hb.mono HV0.out.size)); have HYC := ghide (RowB.on HVC.out hb); clear hb HV0 HVC)
  | fail)
 have HB : Hid (Below w.heap.size w (y0.alloc (.cells #[.int .i64 I0, .int .i64 I1, .int .i64 I2, .int .i64 I3, .int .i64 I4, .int .i64 I5] 156))) := HY.out.trans ((bal (Below.refl _ _) _).mono HY.out.size)
 have HC : Hid (RowB (y0.alloc (.cells #[.int .i64 I0, .int .i64 I1, .int .i64 I2, .int .i64 I3, .int .i64 I4, .int .i64 I5] 156)) w.heap.size 178 #[.int .i64 0, .int .i64 0, .int .i64 a, .int .i64 b, .int .i64 0]) := RowB.on HYC.out (bal (Below.refl _ _) _)
 have HI : Hid (RowB (y0.alloc (.cells #[.int .i64 I0, .int .i64 I1, .int .i64 I2, .int .i64 I3, .int .i64 I4, .int .i64 I5] 156)) y0.heap.size 156 #[.int .i64 I0, .int .i64 I1, .int .i64 I2, .int .i64 I3, .int .i64 I4, .int .i64 I5]) := ghide (heap_alloc_new y0 _)
 have hIn := hown y0.heap.size HY.out.size
 clear HY HYC
 generalize y0.alloc _ = W at HB HC HI ⊢
 generalize y0.heap.size = I at HI hIn ⊢
 have HQ : Hid (∀ wx, Below W.heap.size W wx -> Below w.heap.size w wx) := fun wx hx => HB.out.trans (hx.mono HB.out.size)
 have HB0 : Hid (Below W.heap.size W W) := Below.refl _ _
 have hDn := hown w.heap.size (Nat.le_refl _)
 generalize hD : w.heap.size = D at HC hDn ⊢
 have c0_0 : W.cell? ⟨D, 0, none⟩ = some (.int .i64 0) := (HC.out).cell 0 rfl
 have c0_1 : W.cell? ⟨D, 1, none⟩ = some (.int .i64 0) := (HC.out).cell 1 rfl
 have c0_2 : W.cell? ⟨D, 2, none⟩ = some (.int .i64 a) := (HC.out).cell 2 rfl
 have c0_3 : W.cell? ⟨D, 3, none⟩ = some (.int .i64 b) := (HC.out).cell 3 rfl
 have c0_4 : W.cell? ⟨D, 4, none⟩ = some (.int .i64 0) := (HC.out).cell 4 rfl
 rename_i K0 hK0
 have HK : ∀ (A1 A2 R : Nat) (U : World), Below W.heap.size W U -> K0 { tmps := #[.pointer (some ⟨p, 0, none⟩), .int .i64 f, .int .i64 c, .int .i64 a, .int .i64 b, undef, undef, undef, undef, undef, .int .i64 0, .pointer (some ⟨D, 0, none⟩), .pointer (some ⟨I, 0, none⟩), .int .i64 0, .int .i64 0, undef, .int .i64 a, .int .i64 b, .agg #[.int .i64 0, .int .i64 0, .int .i64 a, .int .i64 b, .int .i64 0], .tuple #[.agg #[.int .i64 I0, .int .i64 I1, .int .i64 I2, .int .i64 I3, .int .i64 I4, .int .i64 I5], .int .i64 0], .pointer (some ⟨p, 0, none⟩), .int .i64 c, .tuple #[.agg #[.int .i64 I0, .int .i64 I1, .int .i64 I2, .int .i64 I3, .int .i64 I4, .int .i64 I5], .int .i64 0], .agg #[.int .i64 I0, .int .i64 I1, .int .i64 I2, .int .i64 I3, .int .i64 I4, .int .i64 I5], .int .i64 0, .pointer (some ⟨p, 0, none⟩), .int .i64 f, .int .i64 0, .int .i64 0, .pointer (some ⟨p, 0, none⟩), .agg #[.int .i64 0, .int .i64 0, .int .i64 a, .int .i64 b, .int .i64 0], .func (.func 199) #[] #[.pointer (some ⟨A1, 0, none⟩)], .int .i64 0, .pointer (some ⟨p, 0, none⟩), .agg #[.int .i64 0, .int .i64 0, .int .i64 a, .int .i64 b, .int .i64 0], .func (.func 199) #[] #[.pointer (some ⟨A2, 0, none⟩)], .int .i64 0, .slice (some ⟨R, 0, none⟩) 4 4, .int .i64 0, undef, undef, undef, undef, undef, undef, undef, undef, undef, undef, undef, undef, undef, undef, undef, undef, undef, undef, undef, undef, undef, undef, undef, undef, undef, undef, undef, undef, undef], defers := [] } U := by
  intro A1 A2 R U hU
  have hr := RowB.on HC.out hU
  have HU := ghide ((lv_refl H.out).on (HQ.out _ hU))
  have hr2 := ghide hr
  have hi2 := ghide (RowB.on HI.out hU)
  have c9_0 : U.cell? ⟨D, 0, none⟩ = some (.int .i64 0) := (hr).cell 0 rfl
  have c9_1 : U.cell? ⟨D, 1, none⟩ = some (.int .i64 0) := (hr).cell 1 rfl
  have c9_2 : U.cell? ⟨D, 2, none⟩ = some (.int .i64 a) := (hr).cell 2 rfl
  have c9_3 : U.cell? ⟨D, 3, none⟩ = some (.int .i64 b) := (hr).cell 3 rfl
  have c9_4 : U.cell? ⟨D, 4, none⟩ = some (.int .i64 0) := (hr).cell 4 rfl
  clear hr hU
  refine hK0 _ _ ?_
  go_upto_region 7 with (first
   | (go_at_call 123; refine (ofT_any ⟨0, 0, a, b, 0⟩ _).mono ?_; rintro e u1 ⟨rfl, hr, hb⟩; have HR1 := ghide hr; have HU1 := ghide (HU.out.on hb); have hru := ghide (RowB.on hr2.out hb); have hiu := ghide (RowB.on hi2.out hb); clear hb hr)
   | (go_at_call 111; refine (HTk.out _ _ HU1.out HU.out.size HR1.out).mono ?_; rintro e u2 ⟨⟨v, rfl⟩, hl, hk⟩; have HU2 := ghide hl; have hrv := ghide (hk.row hru.out hDn); have hiv := ghide (hk.row hiu.out hIn); clear hl hk)
   | fail)
  have ci_0 : u2.cell? ⟨I, 0, none⟩ = some (.int .i64 I0) := (hiv.out).cell 0 rfl
  have ci_1 : u2.cell? ⟨I, 1, none⟩ = some (.int .i64 I1) := (hiv.out).cell 1 rfl
  have ci_2 : u2.cell? ⟨I, 2, none⟩ = some (.int .i64 I2) := (hiv.out).cell 2 rfl
  have ci_3 : u2.cell? ⟨I, 3, none⟩ = some (.int .i64 I3) := (hiv.out).cell 3 rfl
  have ci_4 : u2.cell? ⟨I, 4, none⟩ = some (.int .i64 I4) := (hiv.out).cell 4 rfl
  have ci_5 : u2.cell? ⟨I, 5, none⟩ = some (.int .i64 I5) := (hiv.out).cell 5 rfl
  go_upto_region 8 with fail
  have HX2 := ghide (HU2.out.on (bal (Below.refl _ _) (.cells #[.int .i64 c, .int .i64 I0, .int .i64 I1, .int .i64 I2, .int .i64 I3, .int .i64 0] 183)))
  have hrx := ghide (RowB.on hrv.out (bal (Below.refl _ _) (.cells #[.int .i64 c, .int .i64 I0, .int .i64 I1, .int .i64 I2, .int .i64 I3, .int .i64 0] 183)))
  have hfx : Hid (RowB (u2.alloc (.cells #[.int .i64 c, .int .i64 I0, .int .i64 I1, .int .i64 I2, .int .i64 I3, .int .i64 0] 183)) u2.heap.size 183 #[.int .i64 c, .int .i64 I0, .int .i64 I1, .int .i64 I2, .int .i64 I3, .int .i64 0]) := ghide (heap_alloc_new u2 _)
  have hFn := hown u2.heap.size HU2.out.size
  clear HU2 hrv hiv
  generalize u2.alloc _ = X at HX2 hrx hfx ⊢
  generalize u2.heap.size = F at hfx hFn ⊢
  have cx_0 : X.cell? ⟨D, 0, none⟩ = some (.int .i64 0) := (hrx.out).cell 0 rfl
  have cx_1 : X.cell? ⟨D, 1, none⟩ = some (.int .i64 0) := (hrx.out).cell 1 rfl
  have cx_2 : X.cell? ⟨D, 2, none⟩ = some (.int .i64 a) := (hrx.out).cell 2 rfl
  have cx_3 : X.cell? ⟨D, 3, none⟩ = some (.int .i64 b) := (hrx.out).cell 3 rfl
  have cx_4 : X.cell? ⟨D, 4, none⟩ = some (.int .i64 0) := (hrx.out).cell 4 rfl
  have cg_0 : X.cell? ⟨F, 0, none⟩ = some (.int .i64 c) := (hfx.out).cell 0 rfl
  have cg_1 : X.cell? ⟨F, 1, none⟩ = some (.int .i64 I0) := (hfx.out).cell 1 rfl
  have cg_2 : X.cell? ⟨F, 2, none⟩ = some (.int .i64 I1) := (hfx.out).cell 2 rfl
  have cg_3 : X.cell? ⟨F, 3, none⟩ = some (.int .i64 I2) := (hfx.out).cell 3 rfl
  have cg_4 : X.cell? ⟨F, 4, none⟩ = some (.int .i64 I3) := (hfx.out).cell 4 rfl
  have cg_5 : X.cell? ⟨F, 5, none⟩ = some (.int .i64 0) := (hfx.out).cell 5 rfl
  have hkS : ∀ x, RowB x D 178 #[.int .i64 0, .int .i64 0, .int .i64 a, .int .i64 b, .int .i64 0] -> RowB x F 183 #[.int .i64 c, .int .i64 I0, .int .i64 I1, .int .i64 I2, .int .i64 I3, .int .i64 0] -> x.cell? ⟨D, 0, none⟩ = some (.int .i64 0) /\ x.cell? ⟨D, 1, none⟩ = some (.int .i64 0) /\ x.cell? ⟨D, 2, none⟩ = some (.int .i64 a) /\ x.cell? ⟨D, 3, none⟩ = some (.int .i64 b) /\ x.cell? ⟨D, 4, none⟩ = some (.int .i64 0) /\ x.cell? ⟨F, 0, none⟩ = some (.int .i64 c) /\ x.cell? ⟨F, 1, none⟩ = some (.int .i64 I0) /\ x.cell? ⟨F, 2, none⟩ = some (.int .i64 I1) /\ x.cell? ⟨F, 3, none⟩ = some (.int .i64 I2) /\ x.cell? ⟨F, 4, none⟩ = some (.int .i64 I3) /\ x.cell? ⟨F, 5, none⟩ = some (.int .i64 0) := fun x hx hy => ⟨hx.cell 0 rfl, hx.cell 1 rfl, hx.cell 2 rfl, hx.cell 3 rfl, hx.cell 4 rfl, hy.cell 0 rfl, hy.cell 1 rfl, hy.cell 2 rfl, hy.cell 3 rfl, hy.cell 4 rfl, hy.cell 5 rfl⟩
  have HkS := ghide hkS
  clear hkS
  have HXd : Hid (Lv w0 w X.drew p o P s2) := HX2.out.on (Below.refl _ _).drew
  have hrd : Hid (RowB X.drew D 178 #[.int .i64 0, .int .i64 0, .int .i64 a, .int .i64 b, .int .i64 0]) := hrx.out
  have hfd : Hid (RowB X.drew F 183 #[.int .i64 c, .int .i64 I0, .int .i64 I1, .int .i64 I2, .int .i64 I3, .int .i64 0]) := hfx.out
  have kS0 := HkS.out _ hrd.out hfd.out
  have t1 : True := trivial
  go_region_held3 (fun x => x.cell? ⟨D, 0, none⟩ = some (.int .i64 0) /\ x.cell? ⟨D, 1, none⟩ = some (.int .i64 0) /\ x.cell? ⟨D, 2, none⟩ = some (.int .i64 a) /\ x.cell? ⟨D, 3, none⟩ = some (.int .i64 b) /\ x.cell? ⟨D, 4, none⟩ = some (.int .i64 0) /\ x.cell? ⟨F, 0, none⟩ = some (.int .i64 c) /\ x.cell? ⟨F, 1, none⟩ = some (.int .i64 I0) /\ x.cell? ⟨F, 2, none⟩ = some (.int .i64 I1) /\ x.cell? ⟨F, 3, none⟩ = some (.int .i64 I2) /\ x.cell? ⟨F, 4, none⟩ = some (.int .i64 I3) /\ x.cell? ⟨F, 5, none⟩ = some (.int .i64 0)) (first | with_reducible assumption | with_reducible exact kS0 | with_reducible exact kS1 | with_reducible exact kS2 | with_reducible exact kS3 | with_reducible exact kS4 | go_keep) (first
   | (go_at_call 14; clear t1; refine (HMm.out _ s2 HXd.out).mono ?_; rintro e u3 ⟨rfl, hl, hk⟩; have HU3 := ghide hl; have hr3 := ghide (hk.row hrd.out hDn); have hf3 := ghide (hk.row hfd.out hFn); clear hl hk; have kS1 := HkS.out _ hr3.out hf3.out)
   | (go_at_call 124; refine (HMk.out _ HU3.out).mono ?_; rintro e u4 ⟨rfl, hl, hk⟩; have HU4 := ghide hl; have hr4 := ghide (hk.row hr3.out hDn); have hf4 := ghide (hk.row hf3.out hFn); clear hl hk; have kS2 := HkS.out _ hr4.out hf4.out)
   | (go_at_call 14; refine (HMm.out _ s3 HU4.out).mono ?_; rintro e u5 ⟨rfl, hl, hk⟩; have HU5 := ghide hl; have hr5 := ghide (hk.row hr4.out hDn); have hf5 := ghide (hk.row hf4.out hFn); clear hl hk; have kS3 := HkS.out _ hr5.out hf5.out)
   | (go_at_call 125; refine (HPs.out _ HU5.out).mono ?_; rintro e u6 ⟨rfl, hl, hk⟩; have HU6 := ghide hl; have hr6 := ghide (hk.row hr5.out hDn); have hf6 := ghide (hk.row hf5.out hFn); clear hl hk; have kS4 := HkS.out _ hr6.out hf6.out)
   | (go_at_call 105; refine (or_zero (n := 2) (by decide) (fun j hj => cell_new j (zeros2 j hj))).mono ?_; rintro e u7 ⟨rfl, rfl⟩)
   | fail)
  all_goals (go_wp2_with fail; go_ret; exact ⟨rfl, Lv.on HU6.out (by (repeat (first | exact Below.refl _ _ | refine bal ?_ _ | refine bdr ?_)))⟩)
 have HkS : Hid (∀ x, Below W.heap.size W x -> x.cell? ⟨D, 0, none⟩ = some (.int .i64 0) /\ x.cell? ⟨D, 1, none⟩ = some (.int .i64 0) /\ x.cell? ⟨D, 2, none⟩ = some (.int .i64 a) /\ x.cell? ⟨D, 3, none⟩ = some (.int .i64 b) /\ x.cell? ⟨D, 4, none⟩ = some (.int .i64 0)) := fun x hx => by
  have hr := RowB.on HC.out hx
  exact ⟨hr.cell 0 rfl, hr.cell 1 rfl, hr.cell 2 rfl, hr.cell 3 rfl, hr.cell 4 rfl⟩
 have HBd : Hid (Below W.heap.size W W.drew) := (Below.refl _ _).drew
 have kS0 := HkS.out _ HBd.out
 go_region_held3 (fun x => x.cell? ⟨D, 0, none⟩ = some (.int .i64 0) /\ x.cell? ⟨D, 1, none⟩ = some (.int .i64 0) /\ x.cell? ⟨D, 2, none⟩ = some (.int .i64 a) /\ x.cell? ⟨D, 3, none⟩ = some (.int .i64 b) /\ x.cell? ⟨D, 4, none⟩ = some (.int .i64 0)) (first | with_reducible assumption | with_reducible exact kS0 | with_reducible exact kS2 | with_reducible exact kS3 | with_reducible exact kS4 | with_reducible exact kS5 | with_reducible exact kS6 | go_keep) (first
  | (go_at_call 99; refine (HF.out _ (HQ.out _ HBd.out)).mono ?_; rintro e w2 ⟨rfl, hb⟩; have HB2 := ghide (nxt (W := W) HBd.out hb); clear hb; have kS2 := HkS.out _ HB2.out)
  | (go_at_call 123; have h4 := HB4; refine (ofT_any ⟨0, 0, a, b, 0⟩ _).mono ?_; rintro e w5 ⟨rfl, hr, hb⟩; have HB5 := ghide (nxt (W := W) HB4.out hb); have HR5 := ghide hr; clear hb hr; have kS5 := HkS.out _ HB5.out)
  | (go_at_call 123; refine (ofT_any ⟨0, 0, a, b, 0⟩ _).mono ?_; rintro e w3 ⟨rfl, hr, hb⟩; have HB3 := ghide (nxt (W := W) HB2.out hb); have HR3 := ghide hr; clear hb hr; have kS3 := HkS.out _ HB3.out)
  | (go_at_call 106; refine (HRt.out _ _ (HQ.out _ HB3.out) HR3.out).mono ?_; rintro e w4 ⟨rfl, hb⟩; have HB4 := ghide (nxt (W := W) HB3.out hb); clear hb; have kS4 := HkS.out _ HB4.out)
  | (go_at_call 108; refine (HRm.out _ _ (HQ.out _ HB5.out) HR5.out).mono ?_; rintro e w6 ⟨rfl, hb⟩; have HB6 := ghide (nxt (W := W) HB5.out hb); clear hb; have kS6 := HkS.out _ HB6.out)
  | (go_at_call 105; refine (or_zero (n := 4) (by decide) (fun j hj => cell_new j (zeros4 j hj))).mono ?_; rintro e w7 ⟨rfl, rfl⟩)
  | fail)
 all_goals (refine HK _ _ _ _ ?_; (repeat (first | exact HB6.out | refine bal ?_ _ | refine bdr ?_)))
end
end Pbpag
end Go.Proofs.YtkkclcihjojphaaGreatDoor
