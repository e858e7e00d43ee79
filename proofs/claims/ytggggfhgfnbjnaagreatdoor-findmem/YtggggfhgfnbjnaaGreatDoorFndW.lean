/- captbl's calls in a machine; the walk of FindFewer. -/
import Derived.Test.YtggggfhgfnbjnaaGreatDoorFndP
import Derived.Test.YtggggfhgfnbjnaaGreatDoorFndC
import Derived.Test.YtggggfhgfnbjnaaGreatDoorBunCaptbl
import Derived.Test.YtggggfhgfnbjnaaGreatDoorBunCap
namespace Go.Proofs.YtggggfhgfnbjnaaGreatDoor.Pfind
open Go.Proofs.YtggggfhgfnbjnaaGreatDoor.Pbase Go.Proofs.YtggggfhgfnbjnaaGreatDoor.Pcaptbl Go.Proofs.YtggggfhgfnbjnaaGreatDoor.Pchold Go.Proofs.YtggggfhgfnbjnaaGreatDoor.Pmem Go.Proofs.YtggggfhgfnbjnaaGreatDoor.Pmst Go.Proofs.YtggggfhgfnbjnaaGreatDoor.Ppmach Go.Proofs.YtggggfhgfnbjnaaGreatDoor.Ptint
open Go.RowKit
set_option linter.unusedVariables false
set_option linter.unusedSimpArgs false

section
variable {w0 w : World} {p : Nat} {o : Nat → Nat} {P : Pq} {s : St}
theorem fx_mem (h : Fx w0 w p o P s) : Calls Tryz.prog 14 #[.pointer (some ⟨p, 0, none⟩)] w fun e w' => e = .returned (.pointer (some ⟨P.pm, 0, none⟩)) ∧ Fx w0 w' p o P s := (pmem_any h.x.v h.ws).mono (by rintro e w' ⟨h1, h2⟩; exact ⟨h1, h.on h2⟩)
set_option maxRecDepth 100000 in
theorem fx_make (f l : Int) (h : Fx w0 w p o P s) : Calls Tryz.prog 13 #[.pointer (some ⟨P.pm, 0, none⟩), .int .i64 f, .int .i64 l] w fun e w' => e = .returned (.int .i64 (Phead.errP s.N f 1 l false 0)) ∧ Fx w0 w' p o P { s with M := Phead.mkM s.N s.M f 1 l false 0 } := (Pcaptbl.make_any _ _ _ f l _ w h.mx).mono (by rintro e w' ⟨h1, h2, h3⟩; exact ⟨h1, h.words h2 h3⟩)
set_option maxRecDepth 100000 in
theorem fx_cons (r hi f fl : Int) (h : Fx w0 w p o P s) : Calls Tryz.prog 15 #[.pointer (some ⟨P.pm, 0, none⟩), .int .i64 r, .int .i64 hi, .int .i64 f, .int .i64 fl] w fun e w' => e = .returned (.int .i64 (Pcaptbl.coE s.N s.M r hi f fl)) ∧ Fx w0 w' p o P { s with M := Pcaptbl.coM s.N s.M r hi f fl } := (Pcaptbl.cons_any _ _ _ r hi f fl _ w h.mx).mono (by rintro e w' ⟨h1, h2, h3⟩; exact ⟨h1, h.words h2 h3⟩)
set_option maxRecDepth 100000 in
theorem fx_put (root a k r t l e c fl : Int) (ha : -9223372036854775808 ≤ a ∧ a ≤ 9223372036854775807) (h : Fx w0 w p o P s) : Calls Tryz.prog 18 #[.pointer (some ⟨P.pm, 0, none⟩), .int .i64 root, .int .i64 a, .agg #[.int .i64 k, .int .i64 r, .int .i64 t, .int .i64 l, .int .i64 e, .int .i64 c], .int .i64 fl] w fun x w' => x = .returned (.int .i64 (Pcaptbl.ptE s.N s.M root a k r t l e c fl)) ∧ Fx w0 w' p o P { s with M := Pcaptbl.ptM s.N s.M root a k r t l e c fl } := (Pcaptbl.cput_any _ _ _ root a k r t l e c fl _ w h.mx ha).mono (by rintro e w' ⟨h1, h2, h3⟩; exact ⟨h1, h.words h2 h3⟩)
set_option maxRecDepth 100000 in
theorem fx_cap (root a k r : Int) (ha : -9223372036854775808 ≤ a ∧ a ≤ 9223372036854775807) (h : Fx w0 w p o P s) : Calls Tryz.prog 24 #[.pointer (some ⟨p, 0, none⟩), .int .i64 root, .int .i64 a, .int .i64 k, .int .i64 r] w fun e w' => e = .returned (.tuple #[.agg #[.int .i64 (capC s root a k r 0), .int .i64 (capC s root a k r 1), .int .i64 (capC s root a k r 2), .int .i64 (capC s root a k r 3), .int .i64 (capC s root a k r 4), .int .i64 (capC s root a k r 5)], .int .i64 (capE s root a k r)]) ∧ Fx w0 w' p o P s := (fcap_any root a k r ha h).mono (by rintro e w' ⟨h1, h2⟩; exact ⟨h1, h.on h2⟩)
end
theorem i6_of {z : Int} (h : (Lit.int .i64 z).wf = true) : I6 z := by
  have h' : (decide (IntKind.i64.min ≤ z) && decide (z ≤ IntKind.i64.max)) = true := h
  have e1 : IntKind.i64.min = -9223372036854775808 := by decide
  have e2 : IntKind.i64.max = 9223372036854775807 := by decide
  rw [e1, e2] at h'
  simpa [I6] using h'
/-- A machine of the statement's own, whatever its words. -/
def FW (w wx : World) (p : Nat) (o : Nat → Nat) (P : Pq) : Prop := ∃ M, Fx w wx p o P { nwS 8 2 2 with M := M }
theorem unI_zero {b : Bool} {e : Int} (he : e ≠ 0) : unI b e = 0 ↔ b = true := by
  unfold unI
  cases b
  · simp [he]
  · simp
theorem cpR_at (s : St) (root a k r : Int) : cpR s root a k r 0 = Pcaptbl.lkE s.N s.M root a ∧ cpR s root a k r 1 = unI (Pcaptbl.lkC s.N s.M root a 0 == k) 4 ∧ cpR s root a k r 2 = unI (bits .andNot .i64 r (Pcaptbl.lkC s.N s.M root a 1) == 0) 5 ∧ cpR s root a k r 3 = unI (!Pcap.livB (Pcaptbl.lkC s.N s.M root a 0) || Plive.vaA 64 s.L (Pcaptbl.lkC s.N s.M root a 3) (Pcaptbl.lkC s.N s.M root a 4)) 7 := ⟨rfl, rfl, rfl, rfl⟩
theorem fst4 {R : Nat → Int} (h0 : R 0 = 0) (h1 : R 1 = 0) (h2 : R 2 = 0) (h3 : R 3 = 0) : fstN R 4 = 0 := by simp [fstN, h0, h1, h2, h3]
/-- What is found with some rights is found with fewer; it has what was asked. -/
theorem cap_fewer {s : St} {root a k r t : Int} (hr : I6 r) (h : capE s root a k r = 0) : capE s root a k (bits .and .i64 r t) = 0 ∧ (∀ j, capC s root a k (bits .and .i64 r t) j = capC s root a k r j) ∧ capC s root a k r 0 = k ∧ (bits .and .i64 (capC s root a k r 1) r == r) = true := by
  have hz := fstN_zero h
  obtain ⟨p0, p1, p2, p3⟩ := cpR_at s root a k r
  obtain ⟨g0, g1, g2, g3⟩ := cpR_at s root a k (bits .and .i64 r t)
  have z0 := p0.symm.trans (hz 0 (by omega))
  have z1 := p1.symm.trans (hz 1 (by omega))
  have z2 := p2.symm.trans (hz 2 (by omega))
  have z3 := p3.symm.trans (hz 3 (by omega))
  have e1 : (Pcaptbl.lkC s.N s.M root a 0 == k) = true := (unI_zero (by decide)).1 z1
  have e2 : (bits .andNot .i64 r (Pcaptbl.lkC s.N s.M root a 1) == 0) = true := (unI_zero (by decide)).1 z2
  have hE : capE s root a k (bits .and .i64 r t) = 0 := fst4 (g0.trans z0) (g1.trans z1) (g2.trans ((unI_zero (by decide)).2 (fewer_in e2))) (g3.trans z3)
  refine ⟨hE, fun j => ?_, ?_, ?_⟩
  · unfold capC
    rw [if_pos hE, if_pos h]
  · unfold capC
    rw [if_pos h]
    simpa using e1
  · unfold capC
    rw [if_pos h, ← all_in hr]
    exact e2
set_option maxRecDepth 100000 in
set_option maxHeartbeats 4000000 in
theorem fewer_walk (a0 : Option Addr) (len0 cap0 : Nat) (a k r t : Int) (w : World) (HC : Hid (Pcap.CameC w.heap.size w a0 len0)) (hl : len0 ≤ 9223372036854775807) (ha : I6 a) (hr : I6 r) (hT : Pcaptbl.Tb w) :
    Calls Tryz.prog 4 #[.slice a0 len0 cap0, .int .i64 a, .int .i64 k, .int .i64 r, .int .i64 t] w fun e w' => e = .returned (.bool true) ∧ Below w.heap.size w w' := by
  have HP := fhide (pair_any 8 w (by omega) (by omega) hT)
  have HM : Hid (∀ wx p o P, FW w wx p o P → Calls Tryz.prog 14 #[.pointer (some ⟨p, 0, none⟩)] wx fun e w' => e = .returned (.pointer (some ⟨P.pm, 0, none⟩)) ∧ FW w w' p o P) := fun wx p o P ⟨M, h⟩ => (fx_mem h).mono (by rintro e w' ⟨h1, h2⟩; exact ⟨h1, M, h2⟩)
  have HK : Hid (∀ wx p o P f l, FW w wx p o P → Calls Tryz.prog 13 #[.pointer (some ⟨P.pm, 0, none⟩), .int .i64 f, .int .i64 l] wx fun e w' => (∃ x, e = .returned (.int .i64 x)) ∧ FW w w' p o P) := fun wx p o P f l ⟨M, h⟩ => (fx_make f l h).mono (by rintro e w' ⟨h1, h2⟩; exact ⟨⟨_, h1⟩, _, h2⟩)
  have HO : Hid (∀ wx p o P r hi f fl, FW w wx p o P → Calls Tryz.prog 15 #[.pointer (some ⟨P.pm, 0, none⟩), .int .i64 r, .int .i64 hi, .int .i64 f, .int .i64 fl] wx fun e w' => (∃ x, e = .returned (.int .i64 x)) ∧ FW w w' p o P) := fun wx p o P r hi f fl ⟨M, h⟩ => (fx_cons r hi f fl h).mono (by rintro e w' ⟨h1, h2⟩; exact ⟨⟨_, h1⟩, _, h2⟩)
  have HU : Hid (∀ wx p o P root (j : Nat) k r t l e c fl, j < 16 → FW w wx p o P → Calls Tryz.prog 18 #[.pointer (some ⟨P.pm, 0, none⟩), .int .i64 root, .int .i64 j, .agg #[.int .i64 k, .int .i64 r, .int .i64 t, .int .i64 l, .int .i64 e, .int .i64 c], .int .i64 fl] wx fun e w' => (∃ x, e = .returned (.int .i64 x)) ∧ FW w w' p o P) := fun wx p o P root j k r t l e c fl hj ⟨M, h⟩ => (fx_put root j k r t l e c fl (by omega) h).mono (by rintro e w' ⟨h1, h2⟩; exact ⟨⟨_, h1⟩, _, h2⟩)
  have HF : Hid (∀ wx p o P s root k r, Fx w wx p o P s → Calls Tryz.prog 24 #[.pointer (some ⟨p, 0, none⟩), .int .i64 root, .int .i64 a, .int .i64 k, .int .i64 r] wx fun e w' => e = .returned (.tuple #[.agg #[.int .i64 (capC s root a k r 0), .int .i64 (capC s root a k r 1), .int .i64 (capC s root a k r 2), .int .i64 (capC s root a k r 3), .int .i64 (capC s root a k r 4), .int .i64 (capC s root a k r 5)], .int .i64 (capE s root a k r)]) ∧ Below wx.heap.size wx w') := fun wx p o P s root k r h => fcap_any root a k r ha h
  have HA : Hid (∀ wx p o P s, Fx w wx p o P s → ∀ w', Below wx.heap.size wx w' → Calls Tryz.prog 35 #[] w' fun e w' => e = .returned (.bool true) ∧ Below w.heap.size w w') := fun wx p o P s h w' hB => (awake_any w' ((h.tb.on h.below).on hB)).mono (by rintro e w'' ⟨h1, h2⟩; have := h.below.trans (hB.mono h.below.size); exact ⟨h1, this.trans (h2.mono this.size)⟩)
  have HR := fhide hr
  clear hT ha hr
  go_enter Tryz.func4, Tryz.ntmps4
  go_wp2_with (first
    | (go_at_call 7; refine HP.out.mono ?_; rintro e1 w1 ⟨p, o, P, q, rfl, h⟩; have H1 : Hid (FW w w1 p o P) := ⟨_, h⟩; clear h HP)
    | (go_at_call 14; refine (HM.out _ _ _ _ H1.out).mono ?_; rintro e1 w2 ⟨rfl, h⟩; have H2 := fhide h; clear h H1)
    | (go_at_call 13; refine (HK.out _ _ _ _ 0 0 H2.out).mono ?_; rintro e1 w3 ⟨⟨x1, rfl⟩, h⟩; have H3 := fhide h; clear h H2)
    | (go_at_call 14; refine (HM.out _ _ _ _ H3.out).mono ?_; rintro e1 w4 ⟨rfl, h⟩; have H4 := fhide h; clear h H3)
    | (go_at_call 13; refine (HK.out _ _ _ _ 1 1 H4.out).mono ?_; rintro e1 w5 ⟨⟨x2, rfl⟩, h⟩; have H5 := fhide h; clear h H4)
    | (go_at_call 14; refine (HM.out _ _ _ _ H5.out).mono ?_; rintro e1 w6 ⟨rfl, h⟩; have H6 := fhide h; clear h H5)
    | (go_at_call 15; refine (HO.out _ _ _ _ 0 0 1 0 H6.out).mono ?_; rintro e1 w7 ⟨⟨x3, rfl⟩, h⟩; have H7 := fhide h; clear h H6)
    | fail)
  go_loopw [13] (fun i wr => ∃ j : Nat, j ≤ len0 ∧ j ≤ 16 ∧ i = .int .i64 j ∧ FW w wr p o P) (fun i _ => len0 - (intOf i).toNat)
  case atStart => exact ⟨0, by omega, by omega, rfl, H7.out⟩
  case round =>
    obtain ⟨j, hj0, hj16, rfl, hI⟩ := hrel
    have HI := fhide hI
    clear hI H7
    by_cases hin : j < len0 ∧ j < 16
    · obtain ⟨h0, h1⟩ := hin
      have i0 : (j : Int) < (len0 : Int) := by omega
      have i1 : (j : Int) < 16 := by omega
      have i2 : (0 : Int) ≤ (j : Int) := by omega
      obtain ⟨b5, o5, ck, cr, ct, cl, ce, cx, rfl, G5⟩ := HC.out.at h0
      have hbw : ∀ wx, FW w wx p o P → Below w.heap.size w wx := fun wx ⟨M, h⟩ => h.below
      have S5 : Hid (∀ wx, FW w wx p o P → wx.cell? ⟨b5, o5 + j * 6, none⟩ = some (.int .i64 ck) ∧ wx.cell? ⟨b5, o5 + j * 6 + 1, none⟩ = some (.int .i64 cr) ∧ wx.cell? ⟨b5, o5 + j * 6 + 2, none⟩ = some (.int .i64 ct) ∧ wx.cell? ⟨b5, o5 + j * 6 + 3, none⟩ = some (.int .i64 cl) ∧ wx.cell? ⟨b5, o5 + j * 6 + 4, none⟩ = some (.int .i64 ce) ∧ wx.cell? ⟨b5, o5 + j * 6 + 5, none⟩ = some (.int .i64 cx)) := fun wx h => G5.out wx (hbw wx h)
      have HD : Hid (FW w wr.drew p o P) := by obtain ⟨M, h⟩ := HI.out; exact ⟨M, h.on (Below.refl _ _).drew⟩
      have kS0 := S5.out _ HD.out
      clear hbw
      go_upto_region 10 with fail
      go_region_held3 (fun w' => w'.cell? ⟨b5, o5 + j * 6, none⟩ = some (.int .i64 ck) ∧ w'.cell? ⟨b5, o5 + j * 6 + 1, none⟩ = some (.int .i64 cr) ∧ w'.cell? ⟨b5, o5 + j * 6 + 2, none⟩ = some (.int .i64 ct) ∧ w'.cell? ⟨b5, o5 + j * 6 + 3, none⟩ = some (.int .i64 cl) ∧ w'.cell? ⟨b5, o5 + j * 6 + 4, none⟩ = some (.int .i64 ce) ∧ w'.cell? ⟨b5, o5 + j * 6 + 5, none⟩ = some (.int .i64 cx)) (first | with_reducible exact kS0 | with_reducible exact kS1 | with_reducible exact kS2 | go_keep)
        (first
          | (go_at_call 14; refine (HM.out _ _ _ _ HD.out).mono ?_; rintro e1 v1 ⟨rfl, h⟩; have I1 := fhide h; have kS1 := S5.out _ h; clear h)
          | (go_at_call 18; refine (HU.out _ _ _ _ 0 j ck cr ct cl ce cx 0 h1 I1.out).mono ?_; rintro e1 v2 ⟨⟨x4, rfl⟩, h⟩; have I2 := fhide h; have kS2 := S5.out _ h; clear h)
          | fail)
      all_goals
        go_wp2_with fail
        go_roundw
        case rel => exact ⟨j + 1, by omega, by omega, by go_num, I2.out⟩
        case measure => simp [intOf]; omega
    · have hin' : ¬ (j : Int) < (len0 : Int) ∨ ((j : Int) < (len0 : Int) ∧ ¬ (j : Int) < 16) := by omega
      clear hin
      obtain ⟨M, hF⟩ := HI.out
      have HX := fhide hF
      clear hF HI
      have hq : ∀ s, Hid ((capE s 0 a k r = 0 → capE s 0 a k (bits .and .i64 r t) = 0 ∧ (∀ j, capC s 0 a k (bits .and .i64 r t) j = capC s 0 a k r j) ∧ capC s 0 a k r 0 = k ∧ (bits .and .i64 (capC s 0 a k r 1) r == r) = true) ∧ (capE s 0 a k r ≠ 0 → ∀ j, capC s 0 a k r j = 0)) := fun s => ⟨fun e => cap_fewer HR.out e, fun e j => by unfold capC; rw [if_neg e]⟩
      generalize { nwS 8 2 2 with M := M } = s at HX
      have HQ := hq s
      have HF1 := fhide (HF.out wr p o P s 0 k r HX.out)
      have HF2 : Hid (∀ wx, Fx w wx p o P s → Calls Tryz.prog 24 #[.pointer (some ⟨p, 0, none⟩), .int .i64 0, .int .i64 a, .int .i64 k, .int .i64 (bits .and .i64 r t)] wx fun e w' => e = .returned (.tuple #[.agg #[.int .i64 (capC s 0 a k (bits .and .i64 r t) 0), .int .i64 (capC s 0 a k (bits .and .i64 r t) 1), .int .i64 (capC s 0 a k (bits .and .i64 r t) 2), .int .i64 (capC s 0 a k (bits .and .i64 r t) 3), .int .i64 (capC s 0 a k (bits .and .i64 r t) 4), .int .i64 (capC s 0 a k (bits .and .i64 r t) 5)], .int .i64 (capE s 0 a k (bits .and .i64 r t))]) ∧ Below wx.heap.size wx w') := fun wx h => HF.out wx p o P s 0 k _ h
      clear hq HF HR
      generalize capE s 0 a k r = E1 at HF1 HQ
      generalize capE s 0 a k (bits .and .i64 r t) = E2 at HF2 HQ
      generalize capC s 0 a k r = C1 at HF1 HQ
      generalize capC s 0 a k (bits .and .i64 r t) = C2 at HF2 HQ
      have hcut : ¬ (j : Int) < (len0 : Int) ∨ ((j : Int) < (len0 : Int) ∧ ¬ (j : Int) < 16) := hin'
      clear hin'
      rcases hcut with n1 | ⟨n1, n2⟩
      all_goals
        go_upto_region 12 with (first
          | (go_at_call 24; refine HF1.out.mono ?_; rintro e1 v1 ⟨rfl, hb⟩; have HB1 := fhide hb; clear hb HF1)
          | fail)
        have HX1 := fhide (HX.out.on (bal HB1.out (.cells (capO C1) 55)))
        have hx1 : Hid ((v1.alloc (.cells (capO C1) 55)).heap[v1.heap.size]? = some (.cells (capO C1) 55 (0, 0))) := heap_alloc_new _ _
        unfold capO at HX1 hx1
        clear HB1 HX
        generalize v1.alloc _ = v2 at HX1 hx1 ⊢
        generalize v1.heap.size = B1 at hx1 ⊢
        go_upto_region 13 with (first
          | (go_at_call 24; refine (HF2.out _ HX1.out).mono ?_; rintro e1 v3 ⟨rfl, hb⟩; have HB2 := fhide hb; clear hb HF2)
          | fail)
        have HX2 := fhide (HX1.out.on (bal HB2.out (.cells (capO C2) 55)))
        have hx2 : Hid ((v3.alloc (.cells (capO C2) 55)).heap[v3.heap.size]? = some (.cells (capO C2) 55 (0, 0))) := heap_alloc_new _ _
        have hx3 : Hid ((v3.alloc (.cells (capO C2) 55)).heap[B1]? = some (.cells (capO C1) 55 (0, 0))) := ((bal HB2.out (.cells (capO C2) 55)).block B1 (Array.getElem?_eq_some_iff.1 hx1.out).1).trans hx1.out
        have hx4 := hx2.out
        have hx5 := hx3.out
        unfold capO at HX2 hx2 hx3
        clear HB2 HX1 hx1
        generalize hv4 : v3.alloc _ = v4 at HX2 hx2 hx3 ⊢
        generalize v3.heap.size = B2 at hx2 ⊢
        clear hx4 hx5 hv4
        obtain ⟨c0, c1, c2, c3, c4, c5⟩ := capA_cells (d := C1) hx3.out
        obtain ⟨d0, d1, d2, d3, d4, d5⟩ := capA_cells (d := C2) hx2.out
        clear hx2 hx3
        by_cases hE : E1 = 0
        · obtain ⟨rfl, q1, q2, q3⟩ := HQ.out.1 hE
          subst hE
          rw [q1 0] at d0
          rw [q1 1] at d1
          rw [q1 2] at d2
          rw [q1 3] at d3
          rw [q1 4] at d4
          rw [q1 5] at d5
          rw [q2] at c0 d0
          clear HQ q1 q2
          generalize C1 1 = z1 at *
          generalize C1 2 = z2 at *
          generalize C1 3 = z3 at *
          generalize C1 4 = z4 at *
          generalize C1 5 = z5 at *
          have heq := fun w => Pcaptbl.eqlC k z1 z2 z3 z4 z5 w
          have q4 : (k == k) = true := by simp
          go_wp2_with (first
            | (go_at_call 35; refine (HA.out _ _ _ _ _ HX2.out _ (Below.refl _ _)).mono ?_; rintro e8 v8 ⟨rfl, hB8⟩; have H8 := fhide hB8; clear hB8)
            | fail)
          go_ret
          exact ⟨rfl, H8.out⟩
        · have q1 := HQ.out.2 hE
          have hE' : (E1 != 0) = true := by simp [hE]
          rw [q1 0] at c0
          rw [q1 1] at c1
          rw [q1 2] at c2
          rw [q1 3] at c3
          rw [q1 4] at c4
          rw [q1 5] at c5
          clear HQ q1
          have heq := fun w => Pcaptbl.eqlC 0 0 0 0 0 0 w
          go_wp2_with (first
            | (go_at_call 35; refine (HA.out _ _ _ _ _ HX2.out _ (Below.refl _ _)).mono ?_; rintro e8 v8 ⟨rfl, hB8⟩; have H8 := fhide hB8; clear hB8)
            | fail)
          go_ret
          exact ⟨rfl, H8.out⟩
end Go.Proofs.YtggggfhgfnbjnaaGreatDoor.Pfind
