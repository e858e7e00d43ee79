/- Two machines that begin the same, Tcap on a machine, and awake, of stage 27 (written by mk_bp.py out of FndP). -/
import Derived.Test.YtcgekcjnaadcmaaGreatDoorFndB
import Derived.Test.YtcgekcjnaadcmaaGreatDoorBunPmach
import Derived.Test.YtcgekcjnaadcmaaGreatDoorBunVnew
import Derived.Test.YtcgekcjnaadcmaaGreatDoorBunQtcap
namespace Go.Proofs.YtcgekcjnaadcmaaGreatDoor.Pbuild
open Go.Proofs.YtcgekcjnaadcmaaGreatDoor.Pbase Go.Proofs.YtcgekcjnaadcmaaGreatDoor.Pchold Go.Proofs.YtcgekcjnaadcmaaGreatDoor.Pfind Go.Proofs.YtcgekcjnaadcmaaGreatDoor.Play Go.Proofs.YtcgekcjnaadcmaaGreatDoor.Pmem Go.Proofs.YtcgekcjnaadcmaaGreatDoor.Pmst Go.Proofs.YtcgekcjnaadcmaaGreatDoor.Ppmach Go.Proofs.YtcgekcjnaadcmaaGreatDoor.Ptint
open Go.RowKit
set_option linter.unusedVariables false
set_option linter.unusedSimpArgs false

theorem phide {p : Prop} (h : p) : Hid p := h
theorem fx_retypeB {w0 w : World} {p : Nat} {o : Nat → Nat} {P : Pq} {s : St} (f tt : Int) (h : Fx w0 w p o P s) : Calls Tryz.prog 5 #[.pointer (some ⟨p, 0, none⟩), .int .i64 f, .int .i64 tt] w fun x w' => x = .returned (.int .i64 (rtE s f tt)) ∧ Fx w0 w' p o P { s with T := rtT s f tt, M := rtM s f tt } := by
  refine (pretype_any f tt h.x.v h.ws).mono ?_
  rintro e w' ⟨h1, h2⟩
  refine ⟨h1, h.turn h2 ⟨h.ws.n1, h.ws.n64, h.ws.c1, h.ws.c4⟩ ?_⟩
  show Fit (rtM s f tt)
  unfold rtM
  by_cases e : rtX s f tt = 0
  · rw [if_pos e]; exact h.fit.cl _ _
  · rw [if_neg e]; exact h.fit
set_option maxRecDepth 100000 in
set_option maxHeartbeats 1000000 in
theorem pair_any (N : Nat) (w : World) (h1 : 1 ≤ N) (h2 : N ≤ 64) (hT : Phead.TabW w) : Calls Tryz.prog 4 #[.int .i64 N] w fun e w' => ∃ p o P q, e = .returned (.tuple #[.pointer (some ⟨p, 0, none⟩), .pointer (some ⟨q, 0, none⟩)]) ∧ Fx w w' p o P (nwS N 2 2) := by
  have HN : Hid (∀ wx, Calls Tryz.prog 18 #[.agg #[.int .i64 N, .int .i64 2, .int .i64 0, .int .i64 2]] wx fun e w' => ∃ p, e = .returned (.tuple #[.pointer (some ⟨p, 0, none⟩), .int .i64 0]) ∧ ∃ o P, PIs w' p o P (nwS N 2 2) ∧ (∀ i, i < wx.heap.size → o i = 99) ∧ Below wx.heap.size wx w') := fun wx => (pnew_ok N 2 0 2 wx (by unfold ckB; simp; omega)).mono (by rintro e w' ⟨p, h1, o, P, h2, h3, _, h5⟩; exact ⟨p, h1, o, P, h2, h3, h5⟩)
  have HR : Hid (∀ wx, Calls Tryz.prog 19 #[.agg #[.int .i64 N, .int .i64 2, .int .i64 0, .int .i64 2]] wx fun e w' => ∃ q, e = .returned (.tuple #[.pointer (some ⟨q, 0, none⟩), .int .i64 0]) ∧ Below wx.heap.size wx w') := fun wx => Pvnew.rnewM_ok N 2 0 2 wx h1 h2 (by omega) (by omega) (by omega) (by omega) (by omega) (by omega)
  have HB0 : Hid (Below w.heap.size w (w.alloc (.cells #[.int .i64 N, .int .i64 2, .int .i64 0, .int .i64 2] 46))) := bal (Below.refl _ _) _
  have HX0 : Hid ((w.alloc (.cells #[.int .i64 N, .int .i64 2, .int .i64 0, .int .i64 2] 46)).heap[w.heap.size]? = some (.cells #[.int .i64 N, .int .i64 2, .int .i64 0, .int .i64 2] 46 (0, 0))) := heap_alloc_new w _
  have HW := fhide (nwS_ws (N := N) (n := 2) (room := 2) h1 h2 (by omega) (by omega))
  have HT := fhide hT
  clear hT h1 h2
  go_enter Tryz.func4, Tryz.ntmps4
  go_upto_region 2 with fail
  have HC : Hid (∀ wx, Below (w.alloc (.cells #[.int .i64 N, .int .i64 2, .int .i64 0, .int .i64 2] 46)).heap.size (w.alloc (.cells #[.int .i64 N, .int .i64 2, .int .i64 0, .int .i64 2] 46)) wx → wx.cell? ⟨w.heap.size, 0, none⟩ = some (.int .i64 N) ∧ wx.cell? ⟨w.heap.size, 1, none⟩ = some (.int .i64 2) ∧ wx.cell? ⟨w.heap.size, 2, none⟩ = some (.int .i64 0) ∧ wx.cell? ⟨w.heap.size, 3, none⟩ = some (.int .i64 2)) := fun wx hB => by
    have := (hB.block _ (by simp)).trans HX0.out
    refine ⟨?_, ?_, ?_, ?_⟩ <;> rw [cell_of_row wx _ _ _ _ _ this] <;> rfl
  clear HX0
  generalize w.alloc _ = w1 at HB0 HC ⊢
  have HQ : Hid (∀ p o P w2, PIs w2 p o P (nwS N 2 2) → (∀ i, i < w1.heap.size → o i = 99) → Below w1.heap.size w1 w2 → ∀ w3, Below w2.heap.size w2 w3 → Fx w w3 p o P (nwS N 2 2)) := fun p o P w2 h1 h2 h3 w3 h4 =>
    ⟨⟨h1.grown HW.out.c4 h4, Tint.of_below _ (HB0.out.trans ((h3.trans (h4.mono h3.size)).mono HB0.out.size))⟩, HW.out, fun i hi => h2 i (Nat.lt_of_lt_of_le hi HB0.out.size), HT.out, Fit.zero⟩
  clear HB0 HW HT
  generalize w.heap.size = D at HC ⊢
  obtain ⟨c0, c1, c2, c3⟩ := HC.out _ (Below.refl _ _)
  go_upto_region 3 with (first
    | (go_at_call 18; refine (HN.out _).mono ?_; rintro e1 w2 ⟨p, rfl, o, P, h1, h2, h3⟩; have HV := fhide (HQ.out p o P w2 h1 h2 h3); have HK := HC.out _ h3; clear HN HQ HC h1 h2 h3 c0 c1 c2 c3)
    | fail)
  obtain ⟨c0, c1, c2, c3⟩ := HK
  go_wp2_with (first
    | (go_at_call 19; refine (HR.out _).mono ?_; rintro e1 w3 ⟨q, rfl, hb⟩; have HV2 := fhide (HV.out _ hb); clear HR HV hb c0 c1 c2 c3)
    | fail)
  go_ret2
  exact ⟨p, o, P, q, rfl, HV2.out⟩
/-! ### awake -/
/-- A frame of nothing but zeros bears the head of nothing. -/
theorem zero_head : Phead.getK 0 0 0 0 = 0 ∧ Phead.getE 0 0 0 0 = 0 := by
  have h := Phead.got_back (k := 0) (l := 0) (z := false) (t := 0) (Phead.rt_of (by decide) (by decide) (by decide) (by decide) (by decide) (by decide) (by decide))
  have e : Phead.wd0 0 0 false = 0 := by decide +kernel
  rw [e] at h
  exact ⟨h.1, h.2.2.2.2⟩
theorem zero_is {N : Nat} {M : Nat → Nat → Int} {f : Int} (hf : okF N f = true) (h : ∀ j, M f.toNat j = 0) : Phead.isE N M f 0 = 0 := by
  unfold Phead.isE Phead.ghE Phead.ghK
  rw [if_pos hf, if_pos hf, h 0, h 1, h 2, h 3, zero_head.1, zero_head.2]
  rfl
def awS : St := { nwS 1 2 2 with T := rtT (nwS 1 2 2) 0 2, M := rtM (nwS 1 2 2) 0 2 }
theorem aw_all : frshE (nwS 1 2 2) 0 = 4 ∧ rtE (nwS 1 2 2) 0 2 = 0 ∧ frshE awS 0 = 0 := by
  have hq : rtB (nwS 1 2 2) 0 = true := Pquiet.quF_zero _ _ _
  refine ⟨?_, ?_, ?_⟩
  · unfold frshE
    simp only [fstN]
    rfl
  · unfold rtE rtX
    rw [hq]
    rfl
  · have hM : ∀ a b, awS.M a b = 0 := fun a b => by
      show rtM (nwS 1 2 2) 0 2 a b = 0
      unfold rtM clM
      by_cases e : rtX (nwS 1 2 2) 0 2 = 0
      · rw [if_pos e]
        split
        · show (if a = Int.toNat 0 then (0 : Int) else 0) = 0
          split <;> rfl
        · rfl
      · rw [if_neg e]; rfl
    have h1 : (Ptyp.toldA awS.N awS.T 0).is = 2 := by
      show (Ptyp.toldA 1 (rtT (nwS 1 2 2) 0 2) 0).is = 2
      unfold rtT
      rw [hq]
      rfl
    have h2 : (Ptyp.toldA awS.N awS.T 0).cnt = 0 := by
      show (Ptyp.toldA 1 (rtT (nwS 1 2 2) 0 2) 0).cnt = 0
      unfold rtT
      rw [hq]
      rfl
    have h3 : Phead.isE awS.N awS.M 0 0 = 0 := zero_is (N := 1) (by decide) fun j => hM _ j
    unfold frshE
    simp only [fstN, frR, h1, h2, h3]
    rfl
/-! ### Tcap on a machine -/
def btE (s : St) (f : Int) : Int := if frshE s f = 0 then Ptcap.mkE s.N f Ptcap.bd0 else frshE s f
def btS (s : St) (f : Int) : St := if frshE s f = 0 then { s with M := Ptcap.mkM s.N s.M f Ptcap.bd0 } else s
set_option maxRecDepth 100000 in
set_option maxHeartbeats 1000000 in
theorem btcap_any {w0 w : World} {p : Nat} {o : Nat → Nat} {P : Pq} {s : St} (f : Int) (h : Fx w0 w p o P s) : Calls Tryz.prog 9 #[.pointer (some ⟨p, 0, none⟩), .int .i64 f] w fun e w' => e = .returned (.int .i64 (btE s f)) ∧ Fx w0 w' p o P (btS s f) := by
  have HF := phide (fresh_any f h)
  have HO : Hid (∀ wx, Below w.heap.size w wx → Fx w0 wx p o P s) := fun wx hB => h.on hB
  have HM : Hid (∀ wx, Fx w0 wx p o P s → Calls Tryz.prog 15 #[.pointer (some ⟨p, 0, none⟩)] wx fun e w' => e = .returned (.pointer (some ⟨P.pm, 0, none⟩)) ∧ Fx w0 w' p o P s) := fun wx hx => (pmem_any hx.x.v hx.ws).mono (by rintro e w' ⟨h1, h2⟩; exact ⟨h1, hx.on h2⟩)
  have HT : Hid (∀ wx, Fx w0 wx p o P s → Calls Tryz.prog 39 #[.pointer (some ⟨P.pm, 0, none⟩), .int .i64 f, .agg #[.bool false, .int .i64 0, .int .i64 0]] wx fun e w' => e = .returned (.int .i64 (Ptcap.mkE s.N f Ptcap.bd0)) ∧ Fx w0 w' p o P { s with M := Ptcap.mkM s.N s.M f Ptcap.bd0 }) := fun wx hx => by
    refine (Ptcap.make_any P.pm P.bm s.N f Ptcap.bd0 s.M wx ⟨hx.x.v.mem, hx.hd, hx.fit, hx.ws.n1, hx.ws.n64⟩ (by unfold Ptcap.Fb Ptcap.bd0 In64; simp)).mono ?_
    rintro e w' ⟨h1, h2, h3⟩
    exact ⟨h1, hx.words h2.mem h2.fit h3⟩
  clear h
  by_cases he : frshE s f = 0
  · have e1 : btE s f = Ptcap.mkE s.N f Ptcap.bd0 := by unfold btE; rw [if_pos he]
    have e2 : btS s f = { s with M := Ptcap.mkM s.N s.M f Ptcap.bd0 } := by unfold btS; rw [if_pos he]
    rw [e1, e2]
    rw [he] at HF
    generalize { s with M := Ptcap.mkM s.N s.M f Ptcap.bd0 } = s2 at HT ⊢
    generalize Ptcap.mkE s.N f Ptcap.bd0 = E at HT ⊢
    clear e1 e2 he
    go_enter Tryz.func9, Tryz.ntmps9
    go_wp2_with (first
      | (go_at_call 27; refine HF.out.mono ?_; rintro e w1 ⟨rfl, hb⟩; have H1 := phide (HO.out _ hb); clear hb HF HO)
      | (go_at_call 15; refine (HM.out _ H1.out).mono ?_; rintro e w2 ⟨rfl, hb⟩; have H2 := phide hb; clear hb HM H1)
      | (go_at_call 39; refine (HT.out _ H2.out).mono ?_; rintro e w3 ⟨rfl, hb⟩; have H3 := phide hb; clear hb HT H2)
      | fail)
    go_ret
    exact ⟨rfl, H3.out⟩
  · have e1 : btE s f = frshE s f := by unfold btE; rw [if_neg he]
    have e2 : btS s f = s := by unfold btS; rw [if_neg he]
    have e3 : (frshE s f == 0) = false := by simp [he]
    rw [e1, e2]
    generalize frshE s f = E at HF e3 he ⊢
    clear e1 e2 HM HT
    go_enter Tryz.func9, Tryz.ntmps9
    go_wp2_with (first
      | (go_at_call 27; refine HF.out.mono ?_; rintro e w1 ⟨rfl, hb⟩; have H1 := phide (HO.out _ hb); clear hb HF HO)
      | fail)
    go_ret
    exact ⟨rfl, H1.out⟩
theorem is_other {N : Nat} {M : Nat → Nat → Int} {f : Int} (h : Phead.isE N M f 5 = 0) : Phead.isE N M f 0 = 4 := by
  unfold Phead.isE at *
  by_cases e : Phead.ghE N M f = 0
  · rw [if_pos e] at h ⊢
    by_cases k : Phead.ghK N M f = 5
    · rw [k, if_neg (by decide)]
    · rw [if_neg k] at h; cases h
  · rw [if_neg e] at h; exact absurd h e
theorem bt_all : btE (nwS 1 2 2) 0 = 4 ∧ btS (nwS 1 2 2) 0 = nwS 1 2 2 ∧ btE awS 0 = 0 ∧ btE (btS awS 0) 0 = 10 := by
  obtain ⟨a1, a2, a3⟩ := aw_all
  have hq : rtB (nwS 1 2 2) 0 = true := Pquiet.quF_zero _ _ _
  have hs : btS awS 0 = { awS with M := Ptcap.mkM awS.N awS.M 0 Ptcap.bd0 } := by unfold btS; rw [if_pos a3]
  refine ⟨by unfold btE; rw [a1]; rfl, by unfold btS; rw [a1]; rfl, by unfold btE; rw [if_pos a3]; rfl, ?_⟩
  rw [hs]
  have h1 : (Ptyp.toldA awS.N awS.T 0).is = 2 := by
    show (Ptyp.toldA 1 (rtT (nwS 1 2 2) 0 2) 0).is = 2
    unfold rtT
    rw [hq]
    rfl
  have h2 : (Ptyp.toldA awS.N awS.T 0).cnt = 0 := by
    show (Ptyp.toldA 1 (rtT (nwS 1 2 2) 0 2) 0).cnt = 0
    unfold rtT
    rw [hq]
    rfl
  have h3 : Phead.isE awS.N (Ptcap.mkM awS.N awS.M 0 Ptcap.bd0) 0 0 = 4 := by
    refine is_other ?_
    show Phead.isE awS.N (layF awS.N (Phead.mkM awS.N awS.M 0 5 0 false 0) 0 Ptcap.bd0.ws) 0 5 = 0
    rw [is_lay]
    exact is_made (N := 1) (f := 0) (by decide) (by decide)
  have hf : frshE { awS with M := Ptcap.mkM awS.N awS.M 0 Ptcap.bd0 } 0 = 10 := by
    unfold frshE
    simp only [fstN, frR, h1, h2, h3]
    rfl
  unfold btE
  rw [hf, if_neg (by decide)]
set_option maxRecDepth 100000 in
set_option maxHeartbeats 1000000 in
theorem awake_any (w : World) (hT : Phead.TabW w) : Calls Tryz.prog 17 #[] w fun e w' => e = .returned (.bool true) ∧ Below w.heap.size w w' := by
  have HP := phide (pair_any 1 w (by omega) (by omega) hT)
  obtain ⟨e1, e2, e3, e4⟩ := bt_all
  have HF1 : Hid (∀ wx p o P, Fx w wx p o P (nwS 1 2 2) → Calls Tryz.prog 9 #[.pointer (some ⟨p, 0, none⟩), .int .i64 0] wx fun e w' => e = .returned (.int .i64 4) ∧ Fx w w' p o P (nwS 1 2 2)) := fun wx p o P h => (btcap_any 0 h).mono (by rintro e w' ⟨h1, h2⟩; exact ⟨by rw [h1, e1], e2 ▸ h2⟩)
  have HRt : Hid (∀ wx p o P, Fx w wx p o P (nwS 1 2 2) → Calls Tryz.prog 5 #[.pointer (some ⟨p, 0, none⟩), .int .i64 0, .int .i64 2] wx fun e w' => e = .returned (.int .i64 0) ∧ Fx w w' p o P awS) := fun wx p o P h => (fx_retypeB 0 2 h).mono (by rintro e w' ⟨h1, h2⟩; exact ⟨by rw [h1, aw_all.2.1], h2⟩)
  have HF2 : Hid (∀ wx p o P, Fx w wx p o P awS → Calls Tryz.prog 9 #[.pointer (some ⟨p, 0, none⟩), .int .i64 0] wx fun e w' => e = .returned (.int .i64 0) ∧ Fx w w' p o P (btS awS 0)) := fun wx p o P h => (btcap_any 0 h).mono (by rintro e w' ⟨h1, h2⟩; exact ⟨by rw [h1, e3], h2⟩)
  have HF3 : Hid (∀ wx p o P, Fx w wx p o P (btS awS 0) → Calls Tryz.prog 9 #[.pointer (some ⟨p, 0, none⟩), .int .i64 0] wx fun e w' => e = .returned (.int .i64 10) ∧ Below w.heap.size w w') := fun wx p o P h => (btcap_any 0 h).mono (by rintro e w' ⟨h1, h2⟩; exact ⟨by rw [h1, e4], h2.below⟩)
  clear hT e1 e2 e3 e4
  generalize nwS 1 2 2 = s1 at HP HF1 HRt
  generalize btS awS 0 = s3 at HF2 HF3
  generalize awS = s2 at HRt HF2
  go_enter Tryz.func17, Tryz.ntmps17
  go_wp2_with (first
    | (go_at_call 4; refine HP.out.mono ?_; rintro e1 w1 ⟨p, o, P, q, rfl, h⟩; have H1 := phide h; clear h HP)
    | (go_at_call 9; refine (HF1.out _ _ _ _ H1.out).mono ?_; rintro e1 w2 ⟨rfl, h⟩; have H2 := phide h; clear h HF1 H1)
    | (go_at_call 5; refine (HRt.out _ _ _ _ H2.out).mono ?_; rintro e1 w3 ⟨rfl, h⟩; have H3 := phide h; clear h HRt H2)
    | (go_at_call 9; refine (HF2.out _ _ _ _ H3.out).mono ?_; rintro e1 w4 ⟨rfl, h⟩; have H4 := phide h; clear h HF2 H3)
    | (go_at_call 9; refine (HF3.out _ _ _ _ H4.out).mono ?_; rintro e1 w5 ⟨rfl, h⟩; have H5 := phide h; clear h HF3 H4)
    | fail)
  go_ret
  exact ⟨rfl, H5.out⟩
end Go.Proofs.YtcgekcjnaadcmaaGreatDoor.Pbuild
