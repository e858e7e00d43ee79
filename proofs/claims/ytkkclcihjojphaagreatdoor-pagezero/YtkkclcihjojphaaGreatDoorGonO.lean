import Derived.Test.YtkkclcihjojphaaGreatDoorGonL
import Derived.Test.YtkkclcihjojphaaGreatDoorGonC
set_option linter.unusedVariables false
set_option linter.unusedSimpArgs false
set_option maxRecDepth 100000
set_option maxHeartbeats 20000000
namespace Go.Proofs.YtkkclcihjojphaaGreatDoor
namespace Pbpag
open Pbase Pchold Pfind Play Pmem Pmst Ppmach Ptint Go.RowKit Go.Shelf
theorem lv_cell {w0 w x : World} {p : Nat} {o : Nat -> Nat} {P : Pq} {s : St} (h : Lv w0 w x p o P s) (h0 : w0.heap.size <= w.heap.size) {B : Nat} (hn : ¬ PMine o B) (hl : w.heap.size <= B) (j : Nat) (v : Value) : Lv w0 w (x.setCell ⟨B, j, none⟩ v) p o P s :=
 ⟨fx_skip h.fx hn (Nat.le_trans h0 hl) v, ⟨h.k.os, h.k.tape, h.k.output, by rw [World.size_setCell]; exact h.k.size, fun i hi hm => (heap_setCell_other _ _ _ _ (fun e => by have : i = B := e; omega)).trans (h.k.block i hi hm)⟩⟩
theorem row_cell {x : World} {A B : Nat} {t : TypeId} {cs : Array Value} (h : RowB x A t cs) (hn : A ≠ B) (j : Nat) (v : Value) : RowB (x.setCell ⟨B, j, none⟩ v) A t cs := (heap_setCell_other _ _ _ _ hn).trans h
theorem row_put {x : World} {A : Nat} {t : TypeId} {cs : Array Value} (h : RowB x A t cs) (j : Nat) (v : Value) : RowB (x.setCell ⟨A, j, none⟩ v) A t (cs.setIfInBounds j v) := heap_setCell_same _ A j _ _ v h
theorem six_all {x : World} {A : Nat} {t : TypeId} {c0 c1 c2 c3 c4 c5 : Value} (h : RowB x A t #[c0, c1, c2, c3, c4, c5]) (d0 d1 d2 d3 d4 d5 : Value) : RowB ((((((x.setCell ⟨A, 0, none⟩ d0).setCell ⟨A, 1, none⟩ d1).setCell ⟨A, 2, none⟩ d2).setCell ⟨A, 3, none⟩ d3).setCell ⟨A, 4, none⟩ d4).setCell ⟨A, 5, none⟩ d5) A t #[d0, d1, d2, d3, d4, d5] :=
 row_put (row_put (row_put (row_put (row_put (row_put h 0 d0) 1 d1) 2 d2) 3 d3) 4 d4) 5 d5
section
variable {w0 w : World} {p : Nat} {o : Nat -> Nat} {P : Pq} {s : St}
theorem bcomp_ok (f a b ID EP fl : Int) (TL : Nat -> Plive.LS) (h : Fx w0 w p o P s) (hT : Tz w0) (hc : Pcomp.Fi ⟨a, b, ID, EP, 0, 0⟩) (hf : frshE s f = 0) (hg : ∀ x ∈ ndC ⟨a, b, 0, 0, 0, 0⟩, hdG s x) (hm : ∀ x ∈ ndC ⟨a, b, 0, 0, 0, 0⟩, rmG s x) (hfl : Pclock.floE s.n s.C = fl) (hID : Plive.tkI 64 s.L fl = ID) (hEP : Plive.tkE 64 s.L fl = EP) (hTL : Plive.tkS 64 s.L fl = TL) (hl : Plive.tkR 64 s.L fl = 0) : Calls Tryz.prog 66 #[.pointer (some ⟨p, 0, none⟩), .int .i64 f, .int .i64 a, .int .i64 b] w fun e w' => e = .returned (.tuple #[.agg #[.int .i64 5, .int .i64 31, .int .i64 f, .int .i64 ID, .int .i64 EP, .int .i64 0], .int .i64 (Pcomp.mkE s.N f ⟨a, b, ID, EP, 0, 0⟩)]) /\ Lv w0 w w' p o P { s with L := TL, T := refL s.N s.T (ndC ⟨a, b, ID, EP, 0, 0⟩), M := Pcomp.mkM s.N s.M f ⟨a, b, ID, EP, 0, 0⟩ } := by
 have hown : ∀ B, w.heap.size <= B -> ¬ PMine o B := fun B hB => fx_new h hB
 have h00 : w0.heap.size <= w.heap.size := h.below.size
 have HB : Hid (Below w.heap.size w ((w.alloc (.cells #[.int .i64 0, .int .i64 0, .int .i64 0, .int .i64 0, .int .i64 0, .int .i64 0] 91)).alloc (.cells #[.int .i64 a, .int .i64 b, .int .i64 0, .int .i64 0, .int .i64 0, .int .i64 0] 156))) := bal (bal (Below.refl _ _) _) _
 have HC : Hid (RowB ((w.alloc (.cells #[.int .i64 0, .int .i64 0, .int .i64 0, .int .i64 0, .int .i64 0, .int .i64 0] 91)).alloc (.cells #[.int .i64 a, .int .i64 b, .int .i64 0, .int .i64 0, .int .i64 0, .int .i64 0] 156)) (w.heap.size + 1) 156 #[.int .i64 a, .int .i64 b, .int .i64 0, .int .i64 0, .int .i64 0, .int .i64 0]) := ghide (by have := heap_alloc_new (w.alloc (.cells #[.int .i64 0, .int .i64 0, .int .i64 0, .int .i64 0, .int .i64 0, .int .i64 0] 91)) (.cells #[.int .i64 a, .int .i64 b, .int .i64 0, .int .i64 0, .int .i64 0, .int .i64 0] 156); rwa [World.size_alloc] at this)
 have HP : Hid (RowB ((w.alloc (.cells #[.int .i64 0, .int .i64 0, .int .i64 0, .int .i64 0, .int .i64 0, .int .i64 0] 91)).alloc (.cells #[.int .i64 a, .int .i64 b, .int .i64 0, .int .i64 0, .int .i64 0, .int .i64 0] 156)) w.heap.size 91 #[.int .i64 0, .int .i64 0, .int .i64 0, .int .i64 0, .int .i64 0, .int .i64 0]) := ghide (RowB.on (heap_alloc_new w _) (bal (Below.refl _ _) _))
 have HF : Hid (∀ wx, Below w.heap.size w wx -> Calls Tryz.prog 99 #[.pointer (some ⟨p, 0, none⟩), .int .i64 f] wx fun e w' => e = .returned (.int .i64 0) /\ Below wx.heap.size wx w') := fun wx hx => by have := fresh_any f (h.on hx); rwa [hf] at this
 have HRt : Hid (∀ wx A, Below w.heap.size w wx -> RowB wx A 156 #[.int .i64 a, .int .i64 b, .int .i64 0, .int .i64 0, .int .i64 0, .int .i64 0] -> Calls Tryz.prog 106 #[.pointer (some ⟨p, 0, none⟩), .func (.func 180) #[] #[.pointer (some ⟨A, 0, none⟩)]] wx fun e w' => e = .returned (.int .i64 0) /\ Below wx.heap.size wx w') := fun wx A hx hr => rightC ⟨a, b, 0, 0, 0, 0⟩ (h.on hx) hr hg
 have HRm : Hid (∀ wx A, Below w.heap.size w wx -> RowB wx A 156 #[.int .i64 a, .int .i64 b, .int .i64 0, .int .i64 0, .int .i64 0, .int .i64 0] -> Calls Tryz.prog 108 #[.pointer (some ⟨p, 0, none⟩), .func (.func 180) #[] #[.pointer (some ⟨A, 0, none⟩)]] wx fun e w' => e = .returned (.int .i64 0) /\ Below wx.heap.size wx w') := fun wx A hx hr => roomC ⟨a, b, 0, 0, 0, 0⟩ (h.on hx) hr hm
 have HMm : Hid (∀ wx s', Lv w0 w wx p o P s' -> Calls Tryz.prog 14 #[.pointer (some ⟨p, 0, none⟩)] wx fun e w' => e = .returned (.pointer (some ⟨P.pm, 0, none⟩)) /\ Lv w0 w w' p o P s' /\ Lv w0 wx w' p o P s') := fun wx s' hx => (gx_mem hx.fx).mono (by rintro e w' ⟨h1, h2⟩; exact ⟨h1, hx.then h2, h2⟩)
 have HFl : Hid (∀ wx, Lv w0 w wx p o P s -> Calls Tryz.prog 51 #[.pointer (some ⟨p, 0, none⟩)] wx fun e w' => e = .returned (.tuple #[.int .i64 fl, .int .i64 (Pclock.floF s.n s.C)]) /\ Lv w0 w w' p o P s /\ Lv w0 wx w' p o P s) := fun wx hx => (gx_floors hx.fx).mono (by rintro e w' ⟨h1, h2⟩; exact ⟨by rw [h1, hfl], hx.then h2, h2⟩)
 have HLv : Hid (∀ wx, Lv w0 w wx p o P s -> Calls Tryz.prog 109 #[.pointer (some ⟨p, 0, none⟩)] wx fun e w' => e = .returned (.pointer (some ⟨P.pl, 0, none⟩)) /\ Lv w0 w w' p o P s /\ Lv w0 wx w' p o P s) := fun wx hx => (gx_live hx.fx).mono (by rintro e w' ⟨h1, h2⟩; exact ⟨h1, hx.then h2, h2⟩)
 have HLt : Hid (∀ wx, Lv w0 w wx p o P s -> Calls Tryz.prog 110 #[.pointer (some ⟨P.pl, 0, none⟩), .int .i64 fl] wx fun e w' => e = .returned (.tuple #[.int .i64 ID, .int .i64 EP, .int .i64 0]) /\ Lv w0 w w' p o P { s with L := TL } /\ Lv w0 wx w' p o P { s with L := TL }) := fun wx hx => (gx_take fl hx.fx).mono (by rintro e w' ⟨h1, h2⟩; rw [hTL] at h2; exact ⟨by rw [h1, hID, hEP, hl], hx.then h2, h2⟩)
 have HTk : Hid (∀ wx A, Lv w0 w wx p o P { s with L := TL } -> w.heap.size <= A -> RowB wx A 156 #[.int .i64 a, .int .i64 b, .int .i64 ID, .int .i64 EP, .int .i64 0, .int .i64 0] -> Calls Tryz.prog 111 #[.pointer (some ⟨p, 0, none⟩), .func (.func 180) #[] #[.pointer (some ⟨A, 0, none⟩)]] wx fun e w' => (∃ v, e = .returned v) /\ Lv w0 w w' p o P { s with L := TL, T := refL s.N s.T (ndC ⟨a, b, ID, EP, 0, 0⟩) } /\ Lv w0 wx w' p o P { s with L := TL, T := refL s.N s.T (ndC ⟨a, b, ID, EP, 0, 0⟩) }) := fun wx A hx hA hr => (takeC ⟨a, b, ID, EP, 0, 0⟩ hx.fx (hown A hA) hr).mono (by rintro e w' ⟨h1, h2⟩; exact ⟨h1, hx.then h2, h2⟩)
 have HMk : Hid (∀ wx, Lv w0 w wx p o P { s with L := TL, T := refL s.N s.T (ndC ⟨a, b, ID, EP, 0, 0⟩) } -> Calls Tryz.prog 112 #[.pointer (some ⟨P.pm, 0, none⟩), .int .i64 f, .agg #[.int .i64 a, .int .i64 b, .int .i64 ID, .int .i64 EP, .int .i64 0, .int .i64 0]] wx fun e w' => e = .returned (.int .i64 (Pcomp.mkE s.N f ⟨a, b, ID, EP, 0, 0⟩)) /\ Lv w0 w w' p o P { s with L := TL, T := refL s.N s.T (ndC ⟨a, b, ID, EP, 0, 0⟩), M := Pcomp.mkM s.N s.M f ⟨a, b, ID, EP, 0, 0⟩ } /\ Lv w0 wx w' p o P { s with L := TL, T := refL s.N s.T (ndC ⟨a, b, ID, EP, 0, 0⟩), M := Pcomp.mkM s.N s.M f ⟨a, b, ID, EP, 0, 0⟩ }) := fun wx hx => (gx_comake f ⟨a, b, ID, EP, 0, 0⟩ hc hT hx.fx).mono (by rintro e w' ⟨h1, h2⟩; exact ⟨h1, hx.then h2, h2⟩)
 have HOf : Hid (∀ wx, Calls Tryz.prog 107 #[.agg #[.int .i64 a, .int .i64 b, .int .i64 ID, .int .i64 EP, .int .i64 0, .int .i64 0]] wx fun x w' => x = .returned (.func (.func 180) #[] #[.pointer (some ⟨wx.heap.size, 0, none⟩)]) /\ RowB w' wx.heap.size 156 #[.int .i64 a, .int .i64 b, .int .i64 ID, .int .i64 EP, .int .i64 0, .int .i64 0] /\ Below wx.heap.size wx w') := fun wx => ofC_any ⟨a, b, ID, EP, 0, 0⟩ wx
 have H := ghide h
 clear h hf hg hm hc hT hl hfl hID hEP hTL
 generalize { s with L := TL, T := refL s.N s.T (ndC ⟨a, b, ID, EP, 0, 0⟩), M := Pcomp.mkM s.N s.M f ⟨a, b, ID, EP, 0, 0⟩ } = s4 at HMk ⊢
 generalize { s with L := TL, T := refL s.N s.T (ndC ⟨a, b, ID, EP, 0, 0⟩) } = s3 at HTk HMk
 generalize { s with L := TL } = s2 at HLt HTk
 generalize Pcomp.mkE s.N f ⟨a, b, ID, EP, 0, 0⟩ = E at HMk ⊢
 generalize Pclock.floF s.n s.C = fl2 at HFl
 go_enter Tryz.func66, Tryz.ntmps66
 go_upto_region 2 with fail
 generalize hW : ((w.alloc _).alloc _) = W at HB HC HP ⊢
 clear hW
 have HQ : Hid (∀ wx, Below W.heap.size W wx -> Below w.heap.size w wx) := fun wx hx => HB.out.trans (hx.mono HB.out.size)
 have HB0 : Hid (Below W.heap.size W W) := Below.refl _ _
 have hDn := hown w.heap.size (Nat.le_refl _)
 have hCn := hown (w.heap.size + 1) (Nat.le_succ _)
 have HCut : Hid (∀ (x : World) (s' : St) (B j : Nat) (v : Value), Lv w0 w x p o P s' -> w.heap.size <= B -> Lv w0 w (x.setCell ⟨B, j, none⟩ v) p o P s') := fun x s' B j v hx hB => lv_cell hx h00 (hown B hB) hB j v
 generalize hD : w.heap.size = D at HC HP hDn hCn ⊢
 have c0_0 : W.cell? ⟨D + 1, 0, none⟩ = some (.int .i64 a) := (HC.out).cell 0 rfl
 have c0_1 : W.cell? ⟨D + 1, 1, none⟩ = some (.int .i64 b) := (HC.out).cell 1 rfl
 have c0_2 : W.cell? ⟨D + 1, 2, none⟩ = some (.int .i64 0) := (HC.out).cell 2 rfl
 have c0_3 : W.cell? ⟨D + 1, 3, none⟩ = some (.int .i64 0) := (HC.out).cell 3 rfl
 have c0_4 : W.cell? ⟨D + 1, 4, none⟩ = some (.int .i64 0) := (HC.out).cell 4 rfl
 have c0_5 : W.cell? ⟨D + 1, 5, none⟩ = some (.int .i64 0) := (HC.out).cell 5 rfl
 rename_i K0 hK0
 have HK : ∀ (A1 A2 R : Nat) (U : World), Below W.heap.size W U -> K0 { tmps := #[.pointer (some ⟨p, 0, none⟩), .int .i64 f, .int .i64 a, .int .i64 b, undef, undef, undef, undef, .pointer (some ⟨D, 0, none⟩), .int .i64 0, .pointer (some ⟨D + 1, 0, none⟩), .int .i64 0, undef, undef, undef, .int .i64 a, .int .i64 b, .agg #[.int .i64 a, .int .i64 b, .int .i64 0, .int .i64 0, .int .i64 0, .int .i64 0], .pointer (some ⟨p, 0, none⟩), .int .i64 f, .int .i64 0, .pointer (some ⟨p, 0, none⟩), .agg #[.int .i64 a, .int .i64 b, .int .i64 0, .int .i64 0, .int .i64 0, .int .i64 0], .func (.func 180) #[] #[.pointer (some ⟨A1, 0, none⟩)], .int .i64 0, .pointer (some ⟨p, 0, none⟩), .agg #[.int .i64 a, .int .i64 b, .int .i64 0, .int .i64 0, .int .i64 0, .int .i64 0], .func (.func 180) #[] #[.pointer (some ⟨A2, 0, none⟩)], .int .i64 0, .slice (some ⟨R, 0, none⟩) 3 3, .int .i64 0, undef, undef, undef, undef, undef, undef, undef, undef, undef, undef, undef, undef, undef, undef, undef, undef, undef, undef, undef, undef, undef, undef, undef, undef, undef, undef, undef, undef, undef, undef, undef, undef, undef, undef, undef, undef, undef, undef], defers := [] } U := by
  intro A1 A2 R U hU
  have HU := ghide ((lv_refl H.out).on (HQ.out _ hU))
  have hr2 := ghide (RowB.on HC.out hU)
  have hp2 := ghide (RowB.on HP.out hU)
  clear hU
  refine hK0 _ _ ?_
  go_upto_region 7 with (first
   | (go_at_call 51; refine (HFl.out _ HU.out).mono ?_; rintro e u1 ⟨rfl, hl, hk⟩; have HU1 := ghide hl; have hr3 := ghide (hk.row hr2.out hCn); have hp3 := ghide (hk.row hp2.out hDn); clear hl hk)
   | fail)
  go_upto_region 8 with (first
   | (go_at_call 109; refine (HLv.out _ HU1.out).mono ?_; rintro e u2 ⟨rfl, hl, hk⟩; have HU2 := ghide hl; have hr4 := ghide (hk.row hr3.out hCn); have hp4 := ghide (hk.row hp3.out hDn); clear hl hk)
   | (go_at_call 110; refine (HLt.out _ HU2.out).mono ?_; rintro e u3 ⟨rfl, hl, hk⟩; have HU3 := ghide hl; have hr5 := ghide (hk.row hr4.out hCn); have hp5 := ghide (hk.row hp4.out hDn); have q2 : u3.frozen? ⟨D + 1, 2, none⟩ = false := frz_row 2 hr5.out; have q3 : ∀ v, (u3.setCell ⟨D + 1, 2, none⟩ v).frozen? ⟨D + 1, 3, none⟩ = false := fun v => frz_row 3 (row_put hr5.out 2 v); have q4 : u3.frozen? ⟨D + 1, 3, none⟩ = false := frz_row 3 hr5.out; have q5 := hr5.out.cell 2 (v := .int .i64 0) rfl; have q6 := hr5.out.cell 3 (v := .int .i64 0) rfl; clear hl hk)
   | fail)
  have HX := ghide (HCut.out _ _ (D + 1) 3 (.int .i64 EP) (HCut.out _ _ (D + 1) 2 (.int .i64 ID) HU3.out (by rw [hD]; exact Nat.le_succ _)) (by rw [hD]; exact Nat.le_succ _))
  have hrx : Hid (RowB ((u3.setCell ⟨D + 1, 2, none⟩ (.int .i64 ID)).setCell ⟨D + 1, 3, none⟩ (.int .i64 EP)) (D + 1) 156 #[.int .i64 a, .int .i64 b, .int .i64 ID, .int .i64 EP, .int .i64 0, .int .i64 0]) := ghide (row_put (row_put hr5.out 2 _) 3 _)
  have hpx : Hid (RowB ((u3.setCell ⟨D + 1, 2, none⟩ (.int .i64 ID)).setCell ⟨D + 1, 3, none⟩ (.int .i64 EP)) D 91 #[.int .i64 0, .int .i64 0, .int .i64 0, .int .i64 0, .int .i64 0, .int .i64 0]) := ghide (row_cell (row_cell hp5.out (by omega) _ _) (by omega) _ _)
  clear HU3 hr5 hp5 q2 q3 q4 q5 q6
  generalize (u3.setCell _ _).setCell _ _ = X at HX hrx hpx ⊢
  have cx_0 : X.cell? ⟨D + 1, 0, none⟩ = some (.int .i64 a) := (hrx.out).cell 0 rfl
  have cx_1 : X.cell? ⟨D + 1, 1, none⟩ = some (.int .i64 b) := (hrx.out).cell 1 rfl
  have cx_2 : X.cell? ⟨D + 1, 2, none⟩ = some (.int .i64 ID) := (hrx.out).cell 2 rfl
  have cx_3 : X.cell? ⟨D + 1, 3, none⟩ = some (.int .i64 EP) := (hrx.out).cell 3 rfl
  have cx_4 : X.cell? ⟨D + 1, 4, none⟩ = some (.int .i64 0) := (hrx.out).cell 4 rfl
  have cx_5 : X.cell? ⟨D + 1, 5, none⟩ = some (.int .i64 0) := (hrx.out).cell 5 rfl
  go_upto_region 11 with (first
   | (go_at_call 107; refine (HOf.out _).mono ?_; rintro e u4 ⟨rfl, hr, hb⟩; have HR4 := ghide hr; have HU4 := ghide (HX.out.on hb); have hr6 := ghide (RowB.on hrx.out hb); have hp6 := ghide (RowB.on hpx.out hb); clear hb hr)
   | (go_at_call 111; refine (HTk.out _ _ HU4.out HX.out.size HR4.out).mono ?_; rintro e u5 ⟨⟨v, rfl⟩, hl, hk⟩; have HU5 := ghide hl; have hr7 := ghide (hk.row hr6.out hCn); have hp7 := ghide (hk.row hp6.out hDn); clear hl hk)
   | fail)
  have c5_0 : u5.cell? ⟨D + 1, 0, none⟩ = some (.int .i64 a) := (hr7.out).cell 0 rfl
  have c5_1 : u5.cell? ⟨D + 1, 1, none⟩ = some (.int .i64 b) := (hr7.out).cell 1 rfl
  have c5_2 : u5.cell? ⟨D + 1, 2, none⟩ = some (.int .i64 ID) := (hr7.out).cell 2 rfl
  have c5_3 : u5.cell? ⟨D + 1, 3, none⟩ = some (.int .i64 EP) := (hr7.out).cell 3 rfl
  have c5_4 : u5.cell? ⟨D + 1, 4, none⟩ = some (.int .i64 0) := (hr7.out).cell 4 rfl
  have c5_5 : u5.cell? ⟨D + 1, 5, none⟩ = some (.int .i64 0) := (hr7.out).cell 5 rfl
  have hkS : ∀ x, RowB x (D + 1) 156 #[.int .i64 a, .int .i64 b, .int .i64 ID, .int .i64 EP, .int .i64 0, .int .i64 0] -> x.cell? ⟨D + 1, 0, none⟩ = some (.int .i64 a) /\ x.cell? ⟨D + 1, 1, none⟩ = some (.int .i64 b) /\ x.cell? ⟨D + 1, 2, none⟩ = some (.int .i64 ID) /\ x.cell? ⟨D + 1, 3, none⟩ = some (.int .i64 EP) /\ x.cell? ⟨D + 1, 4, none⟩ = some (.int .i64 0) /\ x.cell? ⟨D + 1, 5, none⟩ = some (.int .i64 0) := fun x hx => ⟨hx.cell 0 rfl, hx.cell 1 rfl, hx.cell 2 rfl, hx.cell 3 rfl, hx.cell 4 rfl, hx.cell 5 rfl⟩
  have HkS := ghide hkS
  clear hkS
  have HU5d : Hid (Lv w0 w u5.drew p o P s3) := HU5.out.on (Below.refl _ _).drew
  have hr7d : Hid (RowB u5.drew (D + 1) 156 #[.int .i64 a, .int .i64 b, .int .i64 ID, .int .i64 EP, .int .i64 0, .int .i64 0]) := hr7.out
  have hp7d : Hid (RowB u5.drew D 91 #[.int .i64 0, .int .i64 0, .int .i64 0, .int .i64 0, .int .i64 0, .int .i64 0]) := hp7.out
  have kS0 := HkS.out _ hr7d.out
  have n0 : D ≠ D + 1 := by omega
  go_region_held3 (fun x => x.cell? ⟨D + 1, 0, none⟩ = some (.int .i64 a) /\ x.cell? ⟨D + 1, 1, none⟩ = some (.int .i64 b) /\ x.cell? ⟨D + 1, 2, none⟩ = some (.int .i64 ID) /\ x.cell? ⟨D + 1, 3, none⟩ = some (.int .i64 EP) /\ x.cell? ⟨D + 1, 4, none⟩ = some (.int .i64 0) /\ x.cell? ⟨D + 1, 5, none⟩ = some (.int .i64 0)) (first | with_reducible assumption | with_reducible exact kS0 | with_reducible exact kS1 | with_reducible exact kS2 | go_keep)
   (first
     | (go_at_call 14; refine (HMm.out _ s3 HU5d.out).mono ?_; rintro e u6 ⟨rfl, hl, hk⟩; have HU6 := ghide hl; have hr8 := ghide (hk.row hr7d.out hCn); have hp8 := ghide (hk.row hp7d.out hDn); have kS1 := HkS.out _ hr8.out; clear hl hk)
     | (go_at_call 112; refine (HMk.out _ HU6.out).mono ?_; rintro e u7 ⟨rfl, hl, hk⟩; have HU7 := ghide hl; have hr9 := ghide (hk.row hr8.out hCn); have hp9 := ghide (hk.row hp8.out hDn); have kS2 := HkS.out _ hr9.out; clear hl hk; have cp_0 : u7.cell? ⟨D, 0, none⟩ = some (.int .i64 0) := (hp9.out).cell 0 rfl; have cp_1 : u7.cell? ⟨D, 1, none⟩ = some (.int .i64 0) := (hp9.out).cell 1 rfl; have cp_2 : u7.cell? ⟨D, 2, none⟩ = some (.int .i64 0) := (hp9.out).cell 2 rfl; have cp_3 : u7.cell? ⟨D, 3, none⟩ = some (.int .i64 0) := (hp9.out).cell 3 rfl; have cp_4 : u7.cell? ⟨D, 4, none⟩ = some (.int .i64 0) := (hp9.out).cell 4 rfl; have cp_5 : u7.cell? ⟨D, 5, none⟩ = some (.int .i64 0) := (hp9.out).cell 5 rfl; have z7_0 : u7.frozen? ⟨D, 0, none⟩ = false := frz_row 0 hp9.out; have z7_1 : u7.frozen? ⟨D, 1, none⟩ = false := frz_row 1 hp9.out; have z7_2 : u7.frozen? ⟨D, 2, none⟩ = false := frz_row 2 hp9.out; have z7_3 : u7.frozen? ⟨D, 3, none⟩ = false := frz_row 3 hp9.out; have z7_4 : u7.frozen? ⟨D, 4, none⟩ = false := frz_row 4 hp9.out; have z7_5 : u7.frozen? ⟨D, 5, none⟩ = false := frz_row 5 hp9.out)
     | fail)
  all_goals
   have hrow : ∀ x : World, x.heap = u7.heap -> RowB x D 91 #[.int .i64 0, .int .i64 0, .int .i64 0, .int .i64 0, .int .i64 0, .int .i64 0] := fun x e => by unfold RowB; rw [e]; exact hp9.out
   have y := six_all (hrow u7 rfl) (.int .i64 5) (.int .i64 31) (.int .i64 f) (.int .i64 ID) (.int .i64 EP) (.int .i64 0)
   have y0 := y.cell 0 rfl
   have y1 := y.cell 1 rfl
   have y2 := y.cell 2 rfl
   have y3 := y.cell 3 rfl
   have y4 := y.cell 4 rfl
   have y5 := y.cell 5 rfl
   have HF : Hid (Lv w0 w ((((((u7.setCell ⟨D, 0, none⟩ (.int .i64 5)).setCell ⟨D, 1, none⟩ (.int .i64 31)).setCell ⟨D, 2, none⟩ (.int .i64 f)).setCell ⟨D, 3, none⟩ (.int .i64 ID)).setCell ⟨D, 4, none⟩ (.int .i64 EP)).setCell ⟨D, 5, none⟩ (.int .i64 0)) p o P s4) := by
    have g : w.heap.size <= D := by omega
    exact HCut.out _ _ _ _ _ (HCut.out _ _ _ _ _ (HCut.out _ _ _ _ _ (HCut.out _ _ _ _ _ (HCut.out _ _ _ _ _ (HCut.out _ _ _ _ _ HU7.out g) g) g) g) g) g
   clear y
   go_wp2_with fail
   refine bodyPost_ret (v := .tuple #[.agg #[.int .i64 5, .int .i64 31, .int .i64 f, .int .i64 ID, .int .i64 EP, .int .i64 0], .int .i64 E]) (by simp [results, Tryz.results66, go_sem, y0, y1, y2, y3, y4, y5]) rfl ⟨rfl, ?_⟩
   first | exact HF.out | exact HF.out.on (by (repeat (first | exact Below.refl _ _ | refine bal ?_ _ | refine bdr ?_)))
 have HkS : Hid (∀ x, Below W.heap.size W x -> x.cell? ⟨D + 1, 0, none⟩ = some (.int .i64 a) /\ x.cell? ⟨D + 1, 1, none⟩ = some (.int .i64 b) /\ x.cell? ⟨D + 1, 2, none⟩ = some (.int .i64 0) /\ x.cell? ⟨D + 1, 3, none⟩ = some (.int .i64 0) /\ x.cell? ⟨D + 1, 4, none⟩ = some (.int .i64 0) /\ x.cell? ⟨D + 1, 5, none⟩ = some (.int .i64 0)) := fun x hx => by
  have hr := RowB.on HC.out hx
  exact ⟨hr.cell 0 rfl, hr.cell 1 rfl, hr.cell 2 rfl, hr.cell 3 rfl, hr.cell 4 rfl, hr.cell 5 rfl⟩
 have HBd : Hid (Below W.heap.size W W.drew) := (Below.refl _ _).drew
 have kS0 := HkS.out _ HBd.out
 go_region_held3 (fun x => x.cell? ⟨D + 1, 0, none⟩ = some (.int .i64 a) /\ x.cell? ⟨D + 1, 1, none⟩ = some (.int .i64 b) /\ x.cell? ⟨D + 1, 2, none⟩ = some (.int .i64 0) /\ x.cell? ⟨D + 1, 3, none⟩ = some (.int .i64 0) /\ x.cell? ⟨D + 1, 4, none⟩ = some (.int .i64 0) /\ x.cell? ⟨D + 1, 5, none⟩ = some (.int .i64 0)) (first | with_reducible assumption | with_reducible exact kS0 | with_reducible exact kS2 | with_reducible exact kS3 | with_reducible exact kS4 | with_reducible exact kS5 | with_reducible exact kS6 | go_keep) (first
  | (go_at_call 99; refine (HF.out _ (HQ.out _ HBd.out)).mono ?_; rintro e w2 ⟨rfl, hb⟩; have HB2 := ghide (nxt (W := W) HBd.out hb); clear hb; have kS2 := HkS.out _ HB2.out)
  | (go_at_call 107; have h4 := HB4; refine (ofC_any ⟨a, b, 0, 0, 0, 0⟩ _).mono ?_; rintro e w5 ⟨rfl, hr, hb⟩; have HB5 := ghide (nxt (W := W) HB4.out hb); have HR5 := ghide hr; clear hb hr; have kS5 := HkS.out _ HB5.out)
  | (go_at_call 107; refine (ofC_any ⟨a, b, 0, 0, 0, 0⟩ _).mono ?_; rintro e w3 ⟨rfl, hr, hb⟩; have HB3 := ghide (nxt (W := W) HB2.out hb); have HR3 := ghide hr; clear hb hr; have kS3 := HkS.out _ HB3.out)
  | (go_at_call 106; refine (HRt.out _ _ (HQ.out _ HB3.out) HR3.out).mono ?_; rintro e w4 ⟨rfl, hb⟩; have HB4 := ghide (nxt (W := W) HB3.out hb); clear hb; have kS4 := HkS.out _ HB4.out)
  | (go_at_call 108; refine (HRm.out _ _ (HQ.out _ HB5.out) HR5.out).mono ?_; rintro e w6 ⟨rfl, hb⟩; have HB6 := ghide (nxt (W := W) HB5.out hb); clear hb; have kS6 := HkS.out _ HB6.out)
  | (go_at_call 105; refine (or_zero (n := 3) (by decide) (fun j hj => cell_new j (zeros3 j hj))).mono ?_; rintro e w7 ⟨rfl, rfl⟩)
  | fail)
 all_goals (refine HK _ _ _ _ ?_; (repeat (first | exact HB6.out | refine bal ?_ _ | refine bdr ?_)))
end
end Pbpag
end Go.Proofs.YtkkclcihjojphaaGreatDoor
