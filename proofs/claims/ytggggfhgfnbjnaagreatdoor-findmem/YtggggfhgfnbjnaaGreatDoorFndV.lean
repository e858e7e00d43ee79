/- The walk of FindMem. -/
import Derived.Test.YtggggfhgfnbjnaaGreatDoorFndW
import Derived.Test.YtggggfhgfnbjnaaGreatDoorFndD
import Derived.Test.YtggggfhgfnbjnaaGreatDoorBunCaptbl
namespace Go.Proofs.YtggggfhgfnbjnaaGreatDoor.Pfind
open Go.Proofs.YtggggfhgfnbjnaaGreatDoor.Pbase Go.Proofs.YtggggfhgfnbjnaaGreatDoor.Pcaptbl Go.Proofs.YtggggfhgfnbjnaaGreatDoor.Pchold Go.Proofs.YtggggfhgfnbjnaaGreatDoor.Pmem Go.Proofs.YtggggfhgfnbjnaaGreatDoor.Pmst Go.Proofs.YtggggfhgfnbjnaaGreatDoor.Ppmach Go.Proofs.YtggggfhgfnbjnaaGreatDoor.Ptint
open Go.RowKit
set_option linter.unusedVariables false
set_option linter.unusedSimpArgs false

/-- The table of the statement. -/
def mvM : Nat → Nat → Int := Pcaptbl.coM 8 (Pcaptbl.twoM 8) 0 0 1 0
theorem put_five {k r t l e c : Int} (hp : Pcaptbl.ptE 8 mvM 0 5 k r t l e c 0 = 0) :
    Pcap.Rt k r t l e c ∧ Pcaptbl.lkE 8 (Pcaptbl.ptM 8 mvM 0 5 k r t l e c 0) 0 5 = 0 ∧ ∀ j, j < 6 → Pcaptbl.lkC 8 (Pcaptbl.ptM 8 mvM 0 5 k r t l e c 0) 0 5 j = [k, r, t, l, e, c][j]?.getD 0 := by
  obtain ⟨T3, z3⟩ := Pcaptbl.tree_new (N := 8) (high := 0) (by omega) (by omega) 0
  rw [show ((0 : Nat) : Int) = 0 from rfl] at T3
  change Pcaptbl.Tree 8 mvM 0 false 0 at T3
  obtain ⟨s1, s2, s3⟩ := Pcaptbl.sl_of (high := 0) (low := 5) (by omega) (by omega)
  rw [show 16 * (0 : Int) + 5 = 5 from rfl] at s1 s2 s3
  obtain ⟨_, _, hr, hk, q1, q2⟩ := T3.took hp
  obtain ⟨a1, a2, _⟩ := T3.held s1 s2 q1 hk
  rw [q2]
  exact ⟨hr, a1, a2⟩
/-- Just its frames, with just its rights. -/
def justB (k r t c r' f : Int) : Bool := (k == 2) && ((bits .and .i64 r r' == r') && (decide (t ≤ f) && decide (f < t + c)))
theorem mem_just {s : St} {k r t l e c r' f : Int} (hr' : I6 r') (hE : Pcaptbl.lkE s.N s.M 0 5 = 0) (hC : ∀ j, j < 6 → Pcaptbl.lkC s.N s.M 0 5 j = [k, r, t, l, e, c][j]?.getD 0) (hb : IntKind.i64.wrap (t + c) = t + c) :
    (justB k r t c r' f = true → memE s 0 5 r' f = 0) ∧ (justB k r t c r' f = false → memE s 0 5 r' f ≠ 0) ∧ (k ≠ 2 → memE s 0 5 r' f = 4) := by
  have c0 := hC 0 (by omega)
  have c1 := hC 1 (by omega)
  have c2 := hC 2 (by omega)
  have c5 := hC 5 (by omega)
  obtain ⟨p0, p1, p2, p3⟩ := cpR_at s 0 5 2 r'
  rw [hE] at p0
  rw [c0] at p1 p3
  rw [c1] at p2
  change cpR s 0 5 2 r' 1 = unI (k == 2) 4 at p1
  change cpR s 0 5 2 r' 2 = unI (bits .andNot .i64 r' r == 0) 5 at p2
  rw [all_in hr'] at p2
  have hm : memE s 0 5 r' f = if capE s 0 5 2 r' = 0 then unI (inC (capC s 0 5 2 r') f) 1 else capE s 0 5 2 r' := by
    show (if (if (0 : Int) = 0 then capE s 0 5 2 r' else 0) = 0 then unI (inC (capC s 0 5 2 r') f) 1 else (if (0 : Int) = 0 then capE s 0 5 2 r' else 0)) = _
    rw [if_pos rfl]
  by_cases hk : k = 2
  · subst hk
    have e1 : cpR s 0 5 2 r' 1 = 0 := p1
    by_cases h2 : (bits .and .i64 r r' == r') = true
    · rw [h2] at p2
      have e2 : cpR s 0 5 2 r' 2 = 0 := p2
      have e3 : cpR s 0 5 2 r' 3 = 0 := p3
      have e4 : capE s 0 5 2 r' = 0 := fst4 p0 e1 e2 e3
      have i0 : inC (capC s 0 5 2 r') f = (decide (t ≤ f) && decide (f < t + c)) := by
        unfold inC capC
        rw [if_pos e4, if_pos e4, c2, c5]
        show (decide (t ≤ f) && decide (f < IntKind.i64.wrap (t + c))) = _
        rw [hb]
      rw [hm, if_pos e4, i0]
      unfold justB
      rw [h2]
      refine ⟨fun h => ?_, fun h => ?_, fun h => absurd rfl h⟩
      · have : (decide (t ≤ f) && decide (f < t + c)) = true := by simpa using h
        rw [this]; rfl
      · have : (decide (t ≤ f) && decide (f < t + c)) = false := by simpa using h
        rw [this]; decide
    · have h2' : (bits .and .i64 r r' == r') = false := by simpa using h2
      rw [h2'] at p2
      have e2 : cpR s 0 5 2 r' 2 = 5 := p2
      have e4 : capE s 0 5 2 r' = 5 := by
        unfold capE
        simp [fstN, p0, e1, e2]
      rw [hm, e4, if_neg (by decide)]
      unfold justB
      rw [h2']
      refine ⟨fun h => ?_, fun h => by decide, fun h => absurd rfl h⟩
      simp at h
  · have hk' : (k == 2) = false := by simp [hk]
    rw [hk'] at p1
    have e1 : cpR s 0 5 2 r' 1 = 4 := p1
    have e4 : capE s 0 5 2 r' = 4 := by
      unfold capE
      simp [fstN, p0, e1]
    rw [hm, e4, if_neg (by decide)]
    unfold justB
    rw [hk']
    exact ⟨fun h => by simp at h, fun _ => by decide, fun _ => by decide⟩
set_option maxRecDepth 100000 in
set_option maxHeartbeats 4000000 in
theorem mem_walk (k r t l e c r' f : Int) (w : World) (hr : I6 r') (hT : Pcaptbl.Tb w) :
    Calls Tryz.prog 6 #[.agg #[.int .i64 k, .int .i64 r, .int .i64 t, .int .i64 l, .int .i64 e, .int .i64 c], .int .i64 r', .int .i64 f] w fun x w' => x = .returned (.bool true) ∧ Below w.heap.size w w' := by
  have HB0 : Hid (Below w.heap.size w (w.alloc (.cells #[.int .i64 k, .int .i64 r, .int .i64 t, .int .i64 l, .int .i64 e, .int .i64 c] 55))) := bal (Below.refl _ _) _
  have HX0 : Hid ((w.alloc (.cells #[.int .i64 k, .int .i64 r, .int .i64 t, .int .i64 l, .int .i64 e, .int .i64 c] 55)).heap[w.heap.size]? = some (.cells #[.int .i64 k, .int .i64 r, .int .i64 t, .int .i64 l, .int .i64 e, .int .i64 c] 55 (0, 0))) := heap_alloc_new _ _
  have HT := fhide (hT.on HB0.out)
  clear hT
  go_enter Tryz.func6, Tryz.ntmps6
  go_upto_region 1 with fail
  generalize w.alloc _ = w1 at HB0 HX0 HT ⊢
  generalize w.heap.size = D at HX0 ⊢
  have HC : Hid (∀ wx, Below w1.heap.size w1 wx → wx.cell? ⟨D, 0, none⟩ = some (.int .i64 k) ∧ wx.cell? ⟨D, 1, none⟩ = some (.int .i64 r) ∧ wx.cell? ⟨D, 2, none⟩ = some (.int .i64 t) ∧ wx.cell? ⟨D, 3, none⟩ = some (.int .i64 l) ∧ wx.cell? ⟨D, 4, none⟩ = some (.int .i64 e) ∧ wx.cell? ⟨D, 5, none⟩ = some (.int .i64 c)) := fun wx hB => by
    have := (hB.block D (Array.getElem?_eq_some_iff.1 HX0.out).1).trans HX0.out
    refine ⟨?_, ?_, ?_, ?_, ?_, ?_⟩ <;> rw [cell_of_row _ _ _ _ _ _ this] <;> rfl
  clear HX0
  have HP := fhide (pair_any 8 w1 (by omega) (by omega) HT.out)
  have HM : Hid (∀ wx p o P s, Fx w1 wx p o P s → Calls Tryz.prog 14 #[.pointer (some ⟨p, 0, none⟩)] wx fun e w' => e = .returned (.pointer (some ⟨P.pm, 0, none⟩)) ∧ Fx w1 w' p o P s) := fun wx p o P s h => fx_mem h
  have HK1 : Hid (∀ wx p o P, Fx w1 wx p o P (nwS 8 2 2) → Calls Tryz.prog 13 #[.pointer (some ⟨P.pm, 0, none⟩), .int .i64 0, .int .i64 0] wx fun e w' => (∃ x, e = .returned (.int .i64 x)) ∧ Fx w1 w' p o P { nwS 8 2 2 with M := Phead.mkM 8 (fun _ _ => 0) 0 1 0 false 0 }) := fun wx p o P h => (fx_make 0 0 h).mono (by rintro e w' ⟨h1, h2⟩; exact ⟨⟨_, h1⟩, h2⟩)
  have HK2 : Hid (∀ wx p o P, Fx w1 wx p o P { nwS 8 2 2 with M := Phead.mkM 8 (fun _ _ => 0) 0 1 0 false 0 } → Calls Tryz.prog 13 #[.pointer (some ⟨P.pm, 0, none⟩), .int .i64 1, .int .i64 1] wx fun e w' => (∃ x, e = .returned (.int .i64 x)) ∧ Fx w1 w' p o P { nwS 8 2 2 with M := Pcaptbl.twoM 8 }) := fun wx p o P h => (fx_make 1 1 h).mono (by rintro e w' ⟨h1, h2⟩; exact ⟨⟨_, h1⟩, h2⟩)
  have HO : Hid (∀ wx p o P, Fx w1 wx p o P { nwS 8 2 2 with M := Pcaptbl.twoM 8 } → Calls Tryz.prog 15 #[.pointer (some ⟨P.pm, 0, none⟩), .int .i64 0, .int .i64 0, .int .i64 1, .int .i64 0] wx fun e w' => (∃ x, e = .returned (.int .i64 x)) ∧ Fx w1 w' p o P { nwS 8 2 2 with M := mvM }) := fun wx p o P h => (fx_cons 0 0 1 0 h).mono (by rintro e w' ⟨h1, h2⟩; exact ⟨⟨_, h1⟩, h2⟩)
  have HU : Hid (∀ wx p o P, Fx w1 wx p o P { nwS 8 2 2 with M := mvM } → Calls Tryz.prog 18 #[.pointer (some ⟨P.pm, 0, none⟩), .int .i64 0, .int .i64 5, .agg #[.int .i64 k, .int .i64 r, .int .i64 t, .int .i64 l, .int .i64 e, .int .i64 c], .int .i64 0] wx fun x w' => x = .returned (.int .i64 (Pcaptbl.ptE 8 mvM 0 5 k r t l e c 0)) ∧ Fx w1 w' p o P { nwS 8 2 2 with M := Pcaptbl.ptM 8 mvM 0 5 k r t l e c 0 }) := fun wx p o P h => fx_put 0 5 k r t l e c 0 (by omega) h
  have HF : Hid (∀ wx p o P s, Fx w1 wx p o P s → Calls Tryz.prog 28 #[.pointer (some ⟨p, 0, none⟩), .int .i64 0, .int .i64 5, .int .i64 r', .int .i64 f] wx fun e w' => e = .returned (.int .i64 (memE s 0 5 r' f)) ∧ Fx w1 w' p o P s) := fun wx p o P s h => (fmem_any 0 5 r' f (by omega) h).mono (by rintro e w' ⟨h1, h2⟩; exact ⟨h1, h.on h2⟩)
  have HA : Hid (∀ wx p o P s, Fx w1 wx p o P s → Calls Tryz.prog 35 #[] wx fun e w' => e = .returned (.bool true) ∧ Below w.heap.size w w') := fun wx p o P s h => (awake_any wx (h.tb.on h.below)).mono (by rintro e w'' ⟨h1, h2⟩; have := HB0.out.trans (h.below.mono HB0.out.size); exact ⟨h1, this.trans (h2.mono this.size)⟩)
  have HJ : Hid (Pcaptbl.ptE 8 mvM 0 5 k r t l e c 0 = 0 → (0 ≤ t + c ∧ t + c ≤ 1073741887) ∧ (justB k r t c r' f = true → memE { nwS 8 2 2 with M := Pcaptbl.ptM 8 mvM 0 5 k r t l e c 0 } 0 5 r' f = 0) ∧ (justB k r t c r' f = false → memE { nwS 8 2 2 with M := Pcaptbl.ptM 8 mvM 0 5 k r t l e c 0 } 0 5 r' f ≠ 0) ∧ (k ≠ 2 → memE { nwS 8 2 2 with M := Pcaptbl.ptM 8 mvM 0 5 k r t l e c 0 } 0 5 r' f = 4)) := fun hp => by
    obtain ⟨g1, g2, g3⟩ := put_five hp
    have hb : 0 ≤ t + c ∧ t + c ≤ 1073741887 := by
      unfold Pcap.Rt at g1
      omega
    exact ⟨hb, mem_just hr g2 g3 (wrapi_small (by omega) (by omega))⟩
  clear HT hr
  generalize ({ nwS 8 2 2 with M := Pcaptbl.ptM 8 mvM 0 5 k r t l e c 0 } : St) = s4 at HU HJ
  generalize ({ nwS 8 2 2 with M := mvM } : St) = s3 at HU HO
  generalize ({ nwS 8 2 2 with M := Pcaptbl.twoM 8 } : St) = s2 at HO HK2
  generalize ({ nwS 8 2 2 with M := Phead.mkM 8 (fun _ _ => 0) 0 1 0 false 0 } : St) = s1 at HK1 HK2
  generalize nwS 8 2 2 = s0 at HP HK1
  generalize Pcaptbl.ptE 8 mvM 0 5 k r t l e c 0 = PE at HU HJ
  have HF4 : Hid (∀ wx p o P, Fx w1 wx p o P s4 → Calls Tryz.prog 28 #[.pointer (some ⟨p, 0, none⟩), .int .i64 0, .int .i64 5, .int .i64 r', .int .i64 f] wx fun e w' => e = .returned (.int .i64 (memE s4 0 5 r' f)) ∧ Fx w1 w' p o P s4) := fun wx p o P h => HF.out wx p o P s4 h
  clear HF
  generalize memE s4 0 5 r' f = E at HF4 HJ
  go_upto_region 7 with (first
    | (go_at_call 7; refine HP.out.mono ?_; rintro e1 w2 ⟨p, o, P, q, rfl, h⟩; have H1 := fhide h; clear h HP)
    | (go_at_call 14; refine (HM.out _ _ _ _ _ H1.out).mono ?_; rintro e1 w3 ⟨rfl, h⟩; have H2 := fhide h; clear h H1)
    | (go_at_call 13; refine (HK1.out _ _ _ _ H2.out).mono ?_; rintro e1 w4 ⟨⟨x1, rfl⟩, h⟩; have H3 := fhide h; clear h H2 HK1)
    | (go_at_call 14; refine (HM.out _ _ _ _ _ H3.out).mono ?_; rintro e1 w5 ⟨rfl, h⟩; have H4 := fhide h; clear h H3)
    | (go_at_call 13; refine (HK2.out _ _ _ _ H4.out).mono ?_; rintro e1 w6 ⟨⟨x2, rfl⟩, h⟩; have H5 := fhide h; clear h H4 HK2)
    | (go_at_call 14; refine (HM.out _ _ _ _ _ H5.out).mono ?_; rintro e1 w7 ⟨rfl, h⟩; have H6 := fhide h; clear h H5)
    | (go_at_call 15; refine (HO.out _ _ _ _ H6.out).mono ?_; rintro e1 w8 ⟨⟨x3, rfl⟩, h⟩; have H7 := fhide h; clear h H6 HO)
    | fail)
  have HD : Hid (Fx w1 w8.drew p o P s3) := H7.out.on (Below.refl _ _).drew
  have kS0 := HC.out _ HD.out.below
  go_region_held3 (fun w' => w'.cell? ⟨D, 0, none⟩ = some (.int .i64 k) ∧ w'.cell? ⟨D, 1, none⟩ = some (.int .i64 r) ∧ w'.cell? ⟨D, 2, none⟩ = some (.int .i64 t) ∧ w'.cell? ⟨D, 3, none⟩ = some (.int .i64 l) ∧ w'.cell? ⟨D, 4, none⟩ = some (.int .i64 e) ∧ w'.cell? ⟨D, 5, none⟩ = some (.int .i64 c)) (first | with_reducible exact kS0 | with_reducible exact kS1 | with_reducible exact kS2 | go_keep)
    (first
      | (go_at_call 14; refine (HM.out _ _ _ _ _ HD.out).mono ?_; rintro e1 v1 ⟨rfl, h⟩; have I1 := fhide h; have kS1 := HC.out _ h.below; clear h)
      | (go_at_call 18; refine (HU.out _ _ _ _ I1.out).mono ?_; rintro e1 v2 ⟨rfl, h⟩; have I2 := fhide h; have kS2 := HC.out _ h.below; clear h)
      | fail)
  all_goals
    by_cases hp : PE = 0
    · subst hp
      obtain ⟨hb, j1, j2, j3⟩ := HJ.out rfl
      go_upto_region 10 with (first
        | (go_at_call 28; refine (HF4.out _ _ _ _ I2.out).mono ?_; rintro e1 v3 ⟨rfl, h⟩; have I3 := fhide h; have kS3 := HC.out _ h.below; clear h HF4)
        | fail)
      obtain ⟨c0, c1, c2, c3, c4, c5⟩ := kS3
      have hb1 : wrap64 (t + c) = t + c := by unfold wrap64; omega
      have hb2 : IntKind.i64.wrap (t + c) = t + c := wrapi_small (by omega) (by omega)
      clear hb
      by_cases hk : k = 2
      · subst hk
        by_cases h2 : bits .and .i64 r r' = r'
        · have b2 : (bits .and .i64 r r' == r') = true := by simp [h2]
          by_cases h3 : t ≤ f
          · by_cases h4 : f < t + c
            · have E0 : E = 0 := j1 (by unfold justB; simp [h2, h3, h4])
              subst E0
              clear j1 j2 j3 h2
              go_wp2_with (first
                | (go_at_call 35; refine (HA.out _ _ _ _ _ I3.out).mono ?_; rintro e8 v8 ⟨rfl, hB8⟩; have H8 := fhide hB8; clear hB8)
                | fail)
              go_ret
              exact ⟨rfl, H8.out⟩
            · have E1 : E ≠ 0 := j2 (by unfold justB; simp [h2, h3, h4])
              have bE : (E == 0) = false := by simp [E1]
              clear j1 j2 j3 h2 E1
              go_wp2_with (first
                | (go_at_call 35; refine (HA.out _ _ _ _ _ I3.out).mono ?_; rintro e8 v8 ⟨rfl, hB8⟩; have H8 := fhide hB8; clear hB8)
                | fail)
              go_ret
              exact ⟨rfl, H8.out⟩
          · have E1 : E ≠ 0 := j2 (by unfold justB; simp [h2, h3])
            have bE : (E == 0) = false := by simp [E1]
            clear j1 j2 j3 h2 E1
            go_wp2_with (first
              | (go_at_call 35; refine (HA.out _ _ _ _ _ I3.out).mono ?_; rintro e8 v8 ⟨rfl, hB8⟩; have H8 := fhide hB8; clear hB8)
              | fail)
            go_ret
            exact ⟨rfl, H8.out⟩
        · have b2 : (bits .and .i64 r r' == r') = false := by simp [h2]
          have E1 : E ≠ 0 := j2 (by unfold justB; simp [h2])
          have bE : (E == 0) = false := by simp [E1]
          clear j1 j2 j3 h2 E1
          go_wp2_with (first
            | (go_at_call 35; refine (HA.out _ _ _ _ _ I3.out).mono ?_; rintro e8 v8 ⟨rfl, hB8⟩; have H8 := fhide hB8; clear hB8)
            | fail)
          go_ret
          exact ⟨rfl, H8.out⟩
      · have E4 : E = 4 := j3 hk
        have b1 : (k == 2) = false := by simp [hk]
        subst E4
        clear j1 j2 j3 hk
        go_wp2_with (first
          | (go_at_call 35; refine (HA.out _ _ _ _ _ I3.out).mono ?_; rintro e8 v8 ⟨rfl, hB8⟩; have H8 := fhide hB8; clear hB8)
          | fail)
        go_ret
        exact ⟨rfl, H8.out⟩
    · have hp' : (PE != 0) = true := by simp [hp]
      go_wp2_with (first
        | (go_at_call 35; refine (HA.out _ _ _ _ _ I2.out).mono ?_; rintro e8 v8 ⟨rfl, hB8⟩; have H8 := fhide hB8; clear hB8)
        | fail)
      go_ret
      exact ⟨rfl, H8.out⟩
end Go.Proofs.YtggggfhgfnbjnaaGreatDoor.Pfind
