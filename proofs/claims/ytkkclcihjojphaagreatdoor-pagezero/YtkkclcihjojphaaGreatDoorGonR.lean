import Derived.Test.YtkkclcihjojphaaGreatDoorGonL
set_option linter.unusedVariables false
set_option linter.unusedSimpArgs false
set_option maxRecDepth 100000
set_option maxHeartbeats 20000000
namespace Go.Proofs.YtkkclcihjojphaaGreatDoor
namespace Pbpag
open Pbase Pchold Pfind Play Pmem Pmst Ppmach Ptint Go.RowKit Go.Shelf
section
variable {w0 w : World} {p : Nat} {o : Nat -> Nat} {P : Pq} {s : St}
theorem brcv_ok (f a b : Int) (h : Fx w0 w p o P s) (hT : Tz w0) (hc : Pqrcv.Fv ⟨a, b, 0, false, 0⟩) (hf : frshE s f = 0) (hg : ∀ x ∈ ndR ⟨a, b, 0, false, 0⟩, hdG s x) (hm : ∀ x ∈ ndR ⟨a, b, 0, false, 0⟩, rmG s x) : Calls Tryz.prog 72 #[.pointer (some ⟨p, 0, none⟩), .int .i64 f, .int .i64 a, .int .i64 b] w fun e w' => e = .returned (.int .i64 (Pqrcv.vmE s.N f ⟨a, b, 0, false, 0⟩)) /\ Lv w0 w w' p o P { s with T := refL s.N s.T (ndR ⟨a, b, 0, false, 0⟩), M := Pqrcv.vmM s.N s.M f ⟨a, b, 0, false, 0⟩ } := by
 have HB : Hid (Below w.heap.size w (w.alloc (.cells #[.int .i64 a, .int .i64 b, .int .i64 0, .bool false, .int .i64 0] 193))) := bal (Below.refl _ _) _
 have HC : Hid (RowB (w.alloc (.cells #[.int .i64 a, .int .i64 b, .int .i64 0, .bool false, .int .i64 0] 193)) w.heap.size 193 #[.int .i64 a, .int .i64 b, .int .i64 0, .bool false, .int .i64 0]) := ghide (heap_alloc_new w _)
 have hown : ∀ B, w.heap.size <= B -> ¬ PMine o B := fun B hB => fx_new h hB
 have HF : Hid (∀ wx, Below w.heap.size w wx -> Calls Tryz.prog 99 #[.pointer (some ⟨p, 0, none⟩), .int .i64 f] wx fun e w' => e = .returned (.int .i64 0) /\ Below wx.heap.size wx w') := fun wx hx => by have := fresh_any f (h.on hx); rwa [hf] at this
 have HRt : Hid (∀ wx A, Below w.heap.size w wx -> RowB wx A 193 #[.int .i64 a, .int .i64 b, .int .i64 0, .bool false, .int .i64 0] -> Calls Tryz.prog 106 #[.pointer (some ⟨p, 0, none⟩), .func (.func 215) #[] #[.pointer (some ⟨A, 0, none⟩)]] wx fun e w' => e = .returned (.int .i64 0) /\ Below wx.heap.size wx w') := fun wx A hx hr => rightR ⟨a, b, 0, false, 0⟩ (h.on hx) hr hg
 have HRm : Hid (∀ wx A, Below w.heap.size w wx -> RowB wx A 193 #[.int .i64 a, .int .i64 b, .int .i64 0, .bool false, .int .i64 0] -> Calls Tryz.prog 108 #[.pointer (some ⟨p, 0, none⟩), .func (.func 215) #[] #[.pointer (some ⟨A, 0, none⟩)]] wx fun e w' => e = .returned (.int .i64 0) /\ Below wx.heap.size wx w') := fun wx A hx hr => roomR ⟨a, b, 0, false, 0⟩ (h.on hx) hr hm
 have HTk : Hid (∀ wx A, Lv w0 w wx p o P s -> w.heap.size <= A -> RowB wx A 193 #[.int .i64 a, .int .i64 b, .int .i64 0, .bool false, .int .i64 0] -> Calls Tryz.prog 111 #[.pointer (some ⟨p, 0, none⟩), .func (.func 215) #[] #[.pointer (some ⟨A, 0, none⟩)]] wx fun e w' => (∃ v, e = .returned v) /\ Lv w0 w w' p o P { s with T := refL s.N s.T (ndR ⟨a, b, 0, false, 0⟩) } /\ Lv w0 wx w' p o P { s with T := refL s.N s.T (ndR ⟨a, b, 0, false, 0⟩) }) := fun wx A hx hA hr => (takeR ⟨a, b, 0, false, 0⟩ hx.fx (hown A hA) hr).mono (by rintro e w' ⟨h1, h2⟩; exact ⟨h1, hx.then h2, h2⟩)
 have HMm : Hid (∀ wx s', Lv w0 w wx p o P s' -> Calls Tryz.prog 14 #[.pointer (some ⟨p, 0, none⟩)] wx fun e w' => e = .returned (.pointer (some ⟨P.pm, 0, none⟩)) /\ Lv w0 w w' p o P s' /\ Lv w0 wx w' p o P s') := fun wx s' hx => (gx_mem hx.fx).mono (by rintro e w' ⟨h1, h2⟩; exact ⟨h1, hx.then h2, h2⟩)
 have HMk : Hid (∀ wx, Lv w0 w wx p o P { s with T := refL s.N s.T (ndR ⟨a, b, 0, false, 0⟩) } -> Calls Tryz.prog 132 #[.pointer (some ⟨P.pm, 0, none⟩), .int .i64 f, .agg #[.int .i64 a, .int .i64 b, .int .i64 0, .bool false, .int .i64 0]] wx fun e w' => e = .returned (.int .i64 (Pqrcv.vmE s.N f ⟨a, b, 0, false, 0⟩)) /\ Lv w0 w w' p o P { s with T := refL s.N s.T (ndR ⟨a, b, 0, false, 0⟩), M := Pqrcv.vmM s.N s.M f ⟨a, b, 0, false, 0⟩ }) := fun wx hx => (gx_rvmake f ⟨a, b, 0, false, 0⟩ hc hT hx.fx).mono (by rintro e w' ⟨h1, h2⟩; exact ⟨h1, hx.then h2⟩)
 have H := ghide h
 clear h hf hg hm hc hT
 generalize { s with T := refL s.N s.T (ndR ⟨a, b, 0, false, 0⟩), M := Pqrcv.vmM s.N s.M f ⟨a, b, 0, false, 0⟩ } = s3 at HMk ⊢
 generalize { s with T := refL s.N s.T (ndR ⟨a, b, 0, false, 0⟩) } = s2 at HTk HMk
 generalize Pqrcv.vmE s.N f ⟨a, b, 0, false, 0⟩ = E at HMk ⊢
 go_enter Tryz.func72, Tryz.ntmps72
 go_upto_region 2 with fail
 generalize hW : (w.alloc _) = W at HB HC ⊢
 clear hW
 have HQ : Hid (∀ wx, Below W.heap.size W wx -> Below w.heap.size w wx) := fun wx hx => HB.out.trans (hx.mono HB.out.size)
 have HB0 : Hid (Below W.heap.size W W) := Below.refl _ _
 have hDn := hown w.heap.size (Nat.le_refl _)
 have HLs : Hid (w.heap.size <= W.heap.size) := HB.out.size
 generalize hD : w.heap.size = D at HC hDn ⊢
 have c0_0 : W.cell? ⟨D, 0, none⟩ = some (.int .i64 a) := (HC.out).cell 0 rfl
 have c0_1 : W.cell? ⟨D, 1, none⟩ = some (.int .i64 b) := (HC.out).cell 1 rfl
 have c0_2 : W.cell? ⟨D, 2, none⟩ = some (.int .i64 0) := (HC.out).cell 2 rfl
 have c0_3 : W.cell? ⟨D, 3, none⟩ = some (.bool false) := (HC.out).cell 3 rfl
 have c0_4 : W.cell? ⟨D, 4, none⟩ = some (.int .i64 0) := (HC.out).cell 4 rfl
 rename_i K0 hK0
 have HK : ∀ (A1 A2 R : Nat) (U : World), Below W.heap.size W U -> K0 { tmps := #[.pointer (some ⟨p, 0, none⟩), .int .i64 f, .int .i64 a, .int .i64 b, undef, undef, undef, undef, .int .i64 0, .pointer (some ⟨D, 0, none⟩), .int .i64 0, .int .i64 a, .int .i64 b, .agg #[.int .i64 a, .int .i64 b, .int .i64 0, .bool false, .int .i64 0], .pointer (some ⟨p, 0, none⟩), .int .i64 f, .int .i64 0, .pointer (some ⟨p, 0, none⟩), .agg #[.int .i64 a, .int .i64 b, .int .i64 0, .bool false, .int .i64 0], .func (.func 215) #[] #[.pointer (some ⟨A1, 0, none⟩)], .int .i64 0, .pointer (some ⟨p, 0, none⟩), .agg #[.int .i64 a, .int .i64 b, .int .i64 0, .bool false, .int .i64 0], .func (.func 215) #[] #[.pointer (some ⟨A2, 0, none⟩)], .int .i64 0, .slice (some ⟨R, 0, none⟩) 3 3, .int .i64 0, undef, undef, undef, undef, undef, undef, undef, undef, undef, undef, undef, undef], defers := [] } U := by
  intro A1 A2 R U hU
  have hr := HC.out.on hU
  have HU := ghide ((lv_refl H.out).on (HQ.out _ hU))
  have hr2 := ghide hr
  have c9_0 : U.cell? ⟨D, 0, none⟩ = some (.int .i64 a) := (hr).cell 0 rfl
  have c9_1 : U.cell? ⟨D, 1, none⟩ = some (.int .i64 b) := (hr).cell 1 rfl
  have c9_2 : U.cell? ⟨D, 2, none⟩ = some (.int .i64 0) := (hr).cell 2 rfl
  have c9_3 : U.cell? ⟨D, 3, none⟩ = some (.bool false) := (hr).cell 3 rfl
  have c9_4 : U.cell? ⟨D, 4, none⟩ = some (.int .i64 0) := (hr).cell 4 rfl
  clear hr hU
  refine hK0 _ _ ?_
  go_upto_region 6 with (first
   | (go_at_call 131; refine (ofR_any ⟨a, b, 0, false, 0⟩ _).mono ?_; rintro e u1 ⟨rfl, hr, hb⟩; have HR1 := ghide hr; have HU1 := ghide (HU.out.on hb); have hru := ghide (RowB.on hr2.out hb); clear hb hr)
   | (go_at_call 111; refine (HTk.out _ _ HU1.out (Nat.le_trans HU.out.size (Nat.le_refl _)) HR1.out).mono ?_; rintro e u2 ⟨⟨v, rfl⟩, hl, hk⟩; have HU2 := ghide hl; have hrv := ghide (hk.row hru.out hDn); clear hl hk)
   | fail)
  have c7_0 : u2.cell? ⟨D, 0, none⟩ = some (.int .i64 a) := (hrv.out).cell 0 rfl
  have c7_1 : u2.cell? ⟨D, 1, none⟩ = some (.int .i64 b) := (hrv.out).cell 1 rfl
  have c7_2 : u2.cell? ⟨D, 2, none⟩ = some (.int .i64 0) := (hrv.out).cell 2 rfl
  have c7_3 : u2.cell? ⟨D, 3, none⟩ = some (.bool false) := (hrv.out).cell 3 rfl
  have c7_4 : u2.cell? ⟨D, 4, none⟩ = some (.int .i64 0) := (hrv.out).cell 4 rfl
  go_region_with (first
   | (go_at_call 14; refine (HMm.out _ s2 ?hb).mono ?_; (case hb => first | exact HU2.out | exact HU2.out.on (Below.refl _ _).drew); rintro e u3 ⟨rfl, hl, hk⟩; have HU3 := ghide hl; have hr3 := ghide ((by first | exact hk | exact ((lv_refl (HU2.out.on (Below.refl _ _).drew).fx).then hk) : Lv w0 _ u3 p o P s2).row (by first | exact hrv.out | exact RowB.on hrv.out (Below.refl _ _).drew) hDn); clear hl hk; have c8_0 : u3.cell? ⟨D, 0, none⟩ = some (.int .i64 a) := (hr3.out).cell 0 rfl; have c8_1 : u3.cell? ⟨D, 1, none⟩ = some (.int .i64 b) := (hr3.out).cell 1 rfl; have c8_2 : u3.cell? ⟨D, 2, none⟩ = some (.int .i64 0) := (hr3.out).cell 2 rfl; have c8_3 : u3.cell? ⟨D, 3, none⟩ = some (.bool false) := (hr3.out).cell 3 rfl; have c8_4 : u3.cell? ⟨D, 4, none⟩ = some (.int .i64 0) := (hr3.out).cell 4 rfl)
   | (go_at_call 132; refine (HMk.out _ ?hb).mono ?_; (case hb => first | exact HU3.out | exact HU3.out.on (Below.refl _ _).drew); rintro e u4 ⟨rfl, hl⟩; have HU4 := ghide hl; clear hl)
   | fail)
  all_goals (go_wp2_with fail; go_ret; exact ⟨rfl, by first | exact HU4.out | exact HU4.out.on (Below.refl _ _).drew⟩)
 have HkS : Hid (∀ x, Below W.heap.size W x -> x.cell? ⟨D, 0, none⟩ = some (.int .i64 a) /\ x.cell? ⟨D, 1, none⟩ = some (.int .i64 b) /\ x.cell? ⟨D, 2, none⟩ = some (.int .i64 0) /\ x.cell? ⟨D, 3, none⟩ = some (.bool false) /\ x.cell? ⟨D, 4, none⟩ = some (.int .i64 0)) := fun x hx => by
  have hr := RowB.on HC.out hx
  exact ⟨hr.cell 0 rfl, hr.cell 1 rfl, hr.cell 2 rfl, hr.cell 3 rfl, hr.cell 4 rfl⟩
 have HBd : Hid (Below W.heap.size W W.drew) := (Below.refl _ _).drew
 have kS0 := HkS.out _ HBd.out
 go_region_held3 (fun x => x.cell? ⟨D, 0, none⟩ = some (.int .i64 a) /\ x.cell? ⟨D, 1, none⟩ = some (.int .i64 b) /\ x.cell? ⟨D, 2, none⟩ = some (.int .i64 0) /\ x.cell? ⟨D, 3, none⟩ = some (.bool false) /\ x.cell? ⟨D, 4, none⟩ = some (.int .i64 0)) (first | with_reducible assumption | with_reducible exact kS0 | with_reducible exact kS2 | with_reducible exact kS3 | with_reducible exact kS4 | with_reducible exact kS5 | with_reducible exact kS6 | go_keep) (first
  | (go_at_call 99; refine (HF.out _ (HQ.out _ HBd.out)).mono ?_; rintro e w2 ⟨rfl, hb⟩; have HB2 := ghide (nxt (W := W) HBd.out hb); clear hb; have kS2 := HkS.out _ HB2.out)
  | (go_at_call 131; have h4 := HB4; refine (ofR_any ⟨a, b, 0, false, 0⟩ _).mono ?_; rintro e w5 ⟨rfl, hr, hb⟩; have HB5 := ghide (nxt (W := W) HB4.out hb); have HR5 := ghide hr; clear hb hr; have kS5 := HkS.out _ HB5.out)
  | (go_at_call 131; refine (ofR_any ⟨a, b, 0, false, 0⟩ _).mono ?_; rintro e w3 ⟨rfl, hr, hb⟩; have HB3 := ghide (nxt (W := W) HB2.out hb); have HR3 := ghide hr; clear hb hr; have kS3 := HkS.out _ HB3.out)
  | (go_at_call 106; refine (HRt.out _ _ (HQ.out _ HB3.out) HR3.out).mono ?_; rintro e w4 ⟨rfl, hb⟩; have HB4 := ghide (nxt (W := W) HB3.out hb); clear hb; have kS4 := HkS.out _ HB4.out)
  | (go_at_call 108; refine (HRm.out _ _ (HQ.out _ HB5.out) HR5.out).mono ?_; rintro e w6 ⟨rfl, hb⟩; have HB6 := ghide (nxt (W := W) HB5.out hb); clear hb; have kS6 := HkS.out _ HB6.out)
  | (go_at_call 105; refine (or_zero (n := 3) (by decide) (fun j hj => cell_new j (zeros3 j hj))).mono ?_; rintro e w7 ⟨rfl, rfl⟩)
  | fail)
 all_goals (refine HK _ _ _ _ ?_; (repeat (first | exact HB6.out | refine bal ?_ _ | refine bdr ?_)))
end
end Pbpag
end Go.Proofs.YtkkclcihjojphaaGreatDoor
