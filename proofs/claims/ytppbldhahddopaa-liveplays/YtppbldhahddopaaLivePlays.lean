/- LivePlays returns true for every list of acts, and leaves its arguments as they were. No condition. -/
import Derived.Test.YtppbldhahddopaaRows
import Derived.Test.YtppbldhahddopaaLivW
import Derived.Deep.CutBlock
import Derived.WalkKit
import Derived.ProofKit
import Derived.OpenShut
import Derived.ShutString
import Derived.ChangeOld
import Derived.Below
namespace Go.Proofs.Ytppbldhahddopaa.livePlays
open Go.ChangeShapes Go.WideShapes Go.ChangeAt Go.RowKit
set_option linter.unusedVariables false

theorem own : ownKnob Try.prog.godebug = none := by kernel_rfl
theorem laidOut : laidOutB Try.prog = true := by kernel_rfl

set_option maxRecDepth 100000 in
set_option maxHeartbeats 8000000 in
theorem walk_all (a1 a2 a3 a4 : Option Addr) (len1 cap1 len2 cap2 len3 cap3 len4 cap4 : Nat) (w : World)
    (HC1 : Hid (Came .u8 w.heap.size w a1 len1)) (HC2 : Hid (Came .i64 w.heap.size w a2 len2)) (HC3 : Hid (Came .i64 w.heap.size w a3 len3)) (HC4 : Hid (Came .i64 w.heap.size w a4 len4))
    (hl1 : len1 ≤ 9223372036854775807) (hl2 : len2 ≤ 9223372036854775807) (hl3 : len3 ≤ 9223372036854775807) (hl4 : len4 ≤ 9223372036854775807) :
    Calls Try.prog 3 #[.slice a1 len1 cap1, .slice a2 len2 cap2, .slice a3 len3 cap3, .slice a4 len4 cap4] w fun e w' => e = .returned (.bool true) ∧ Below w.heap.size w w' := by
  go_enter Try.func3, Try.ntmps3
  go_wp2_with (first
    | (go_at_call 8; refine (new_any _).mono ?_; rintro e w1 ⟨rfl, hc1⟩; have HN : Hid (Own w w1 fun _ => noLS) := hc1; clear hc1)
    | (go_at_call 9; refine (rnew_any _).mono ?_; rintro e w2 ⟨rfl, hr2, hb2⟩; have HB2 : Hid (Both w w2 w1.heap.size fun _ => noLS) := both_new HN.out hr2 hb2; clear hr2 hb2)
    | fail)
  clear HN
  obtain ⟨B, hBe⟩ : ∃ B, B = w1.heap.size := ⟨_, rfl⟩
  rw [← hBe] at HB2 ⊢
  clear hBe
  go_loopw [11] (fun i wr => ∃ k : Nat, k ≤ len1 ∧ i = .int .i64 k ∧ ∃ S, Both w wr B S) (fun i _ => len1 - (intOf i).toNat)
  case atStart => exact ⟨0, by omega, rfl, _, HB2.out⟩
  case round =>
    obtain ⟨k, hk, rfl, S, hI⟩ := hrel
    have HI : Hid (Both w wr B S) := hI
    clear hI HB2
    by_cases hin : k < len1 ∧ k < len2 ∧ k < len3 ∧ k < len4 ∧ k < 200
    · obtain ⟨h1, h2, h3, h4, h5⟩ := hin
      obtain ⟨b1, o1, z1, rfl, HZ1, G1⟩ := HC1.out.at h1
      obtain ⟨b2, o2, za, rfl, _, G2⟩ := HC2.out.at h2
      obtain ⟨b3, o3, zb, rfl, _, G3⟩ := HC3.out.at h3
      obtain ⟨b4, o4, zc, rfl, _, G4⟩ := HC4.out.at h4
      have i1 : (k : Int) < (len1 : Int) := by omega
      have i2 : (k : Int) < (len2 : Int) := by omega
      have i3 : (k : Int) < (len3 : Int) := by omega
      have i4 : (k : Int) < (len4 : Int) := by omega
      have i5 : (k : Int) < 200 := by omega
      have c1 := G1.out wr HI.out.below
      have c2 := G2.out wr HI.out.below
      have c3 := G3.out wr HI.out.below
      have c4 := G4.out wr HI.out.below
      clear HZ1
      go_upto_if 55 with fail
      go_cut [12, 13, 14, 15, 16, 17] from 50 to 117 (fun _ _ _ _ _ _ wc => ∃ T, Both w wc B T)
      case first =>
        rcases hq : (z1.tmod 3 == 0) with _ | _
        · obtain ⟨T, hT⟩ : ∃ T, T = tkS 64 S zc := ⟨_, rfl⟩
          have HT : Hid (tkS 64 S zc = T) := hT.symm
          have HO : Hid (okA T) := by rw [hT]; exact ok_tk HI.out.tbl.ok 64 zc
          clear hT
          go_wp2_with (first
            | (go_at_call 12; refine (take_any _ _ 64 S zc _ (by omega) (by omega) HI.out.tbl).mono ?_; rintro e w3 ⟨rfl, hw3⟩; rw [HT.out] at hw3; have H3 : Hid (Half w w3 B S T) := HI.out.half hw3 HO.out; clear hw3 c2 c3 c4; have c4 := G4.out w3 H3.out.below)
            | (go_at_call 13; refine (rtake_any B B 64 S zc _ (by omega) H3.out.size H3.out.ref).mono ?_; rintro e w4 ⟨rfl, hr4, hb4⟩; rw [HT.out] at hr4; have H4 : Hid (Both w w4 B T) := H3.out.both hr4 hb4; clear hr4 hb4 c4)
            | fail)
          go_meet
          exact ⟨_, H4.out⟩
        · obtain ⟨T, hT⟩ : ∃ T, T = klS 64 S za zb zc := ⟨_, rfl⟩
          have HT : Hid (klS 64 S za zb zc = T) := hT.symm
          have HO : Hid (okA T) := by rw [hT]; exact ok_kl HI.out.tbl.ok 64 za zb zc
          clear hT
          go_wp2
          go_region_held3 (fun w' => w'.cell? ⟨b2, o2 + k, none⟩ = some (.int .i64 za) ∧ w'.cell? ⟨b3, o3 + k, none⟩ = some (.int .i64 zb) ∧ w'.cell? ⟨b4, o4 + k, none⟩ = some (.int .i64 zc)) (first | exact ⟨by assumption, by assumption, by assumption⟩ | go_keep)
          (first
            | (go_at_call 10; refine (kill_any _ _ 64 S za zb zc _ (by omega) (by omega) HI.out.drew.tbl).mono ?_; rintro e w3 ⟨rfl, hw3⟩; rw [HT.out] at hw3; have H3 : Hid (Half w w3 B S T) := HI.out.drew.half hw3 HO.out; clear hw3 c2 c3 c4; have c2 := G2.out w3 H3.out.below; have c3 := G3.out w3 H3.out.below; have c4 := G4.out w3 H3.out.below)
            | (go_at_call 11; refine (rkill_any B B 64 S za zb zc _ (by omega) H3.out.ref).mono ?_; rintro e w4 ⟨rfl, hr4, hb4⟩; rw [HT.out] at hr4; have H4 : Hid (Both w w4 B T) := H3.out.both hr4 hb4; clear hr4 hb4 c2 c3 c4; have c2 := G2.out w4 H4.out.below; have c3 := G3.out w4 H4.out.below; have c4 := G4.out w4 H4.out.below)
            | fail)
          go_wp2_with fail
          go_meet
          exact ⟨_, H4.out⟩
      case rest =>
        obtain ⟨T, h4⟩ := hcut
        have H4 : Hid (Both w wc B T) := h4
        clear h4 c1 c2 c3 c4 HI
        have c2 := G2.out wc H4.out.below
        have c3 := G3.out wc H4.out.below
        go_wp2
        go_region_held3 (fun w' => w'.cell? ⟨b2, o2 + k, none⟩ = some (.int .i64 za) ∧ w'.cell? ⟨b3, o3 + k, none⟩ = some (.int .i64 zb)) (first | exact ⟨by assumption, by assumption⟩ | go_keep)
        (first
          | (go_at_call 14; refine (valid_any _ _ 64 T za zb _ (by omega) (by omega) H4.out.drew.tbl).mono ?_; rintro e w5 ⟨rfl, hw5⟩; have H5 : Hid (Both w w5 B T) := H4.out.drew.more hw5; clear hw5 c2 c3; have c2 := G2.out w5 H5.out.below; have c3 := G3.out w5 H5.out.below)
          | (go_at_call 15; refine (rvalid_any B B 64 T za zb _ (by omega) H5.out.ref).mono ?_; rintro e w6 ⟨rfl, hw6⟩; subst w6)
          | (go_at_call 16; refine (count_any _ _ 64 T _ (by omega) (by omega) H5.out.tbl).mono ?_; rintro e w7 ⟨rfl, hw7⟩; have H7 : Hid (Both w w7 B T) := H5.out.more hw7; clear hw7 c2 c3; have c2 := G2.out w7 H7.out.below; have c3 := G3.out w7 H7.out.below)
          | (go_at_call 17; refine (rcount_any B B 64 T _ (by omega) H7.out.ref).mono ?_; rintro e w8 ⟨rfl, hw8⟩; subst w8)
          | fail)
        go_wp2_with fail
        go_roundw
        case rel => exact ⟨k + 1, by omega, by go_num, _, H7.out⟩
        case measure => simp [intOf]; omega
    · have hout : ¬ k < len1 ∨ (k < len1 ∧ ¬ k < len2) ∨ (k < len1 ∧ k < len2 ∧ ¬ k < len3) ∨ (k < len1 ∧ k < len2 ∧ k < len3 ∧ ¬ k < len4) ∨ (k < len1 ∧ k < len2 ∧ k < len3 ∧ k < len4 ∧ ¬ k < 200) := by omega
      clear hin
      rcases hout with h1 | ⟨h1, h2⟩ | ⟨h1, h2, h3⟩ | ⟨h1, h2, h3, h4⟩ | ⟨h1, h2, h3, h4, h5⟩
      all_goals
        go_wp2_with (go_at_call 18; refine (awake_any _).mono ?_; rintro e w9 ⟨rfl, h9⟩; have H9 : Hid (Below w.heap.size w w9) := HI.out.below.trans (h9.mono HI.out.below.size); clear h9)
        go_ret
        exact ⟨rfl, H9.out⟩

theorem walk (a0 : Option Addr) (len0 cap0 : Nat) (a1 : Option Addr) (len1 cap1 : Nat) (a2 : Option Addr) (len2 cap2 : Nat) (a3 : Option Addr) (len3 cap3 : Nat) (w : World) (w0 : Hid (Came .u8 w.heap.size w a0 len0)) (l0 : len0 ≤ 9223372036854775807) (w1 : Hid (Came .i64 w.heap.size w a1 len1)) (l1 : len1 ≤ 9223372036854775807) (w2 : Hid (Came .i64 w.heap.size w a2 len2)) (l2 : len2 ≤ 9223372036854775807) (w3 : Hid (Came .i64 w.heap.size w a3 len3)) (l3 : len3 ≤ 9223372036854775807) :
    Calls Try.prog 3 #[.slice a0 len0 cap0, .slice a1 len1 cap1, .slice a2 len2 cap2, .slice a3 len3 cap3] w fun e w' => e = .returned (.bool true) ∧ Below w.heap.size w w' := by
  exact walk_all a0 a1 a2 a3 len0 cap0 len1 cap1 len2 cap2 len3 cap3 w w0 w1 w2 w3 l0 l1 l2 l3

/-! ### The statement's frame -/
set_option maxRecDepth 100000 in
theorem lifted (os : Os) (started : os.Started) (H : Type) (enc : TypeId × Value → H) :
    ReturnsInHanded {} Try.checked os 3 .any (Rows.livePlaysSpec.pre6 enc Try.prog Try.f3 Rows.livePlaysRow.domain false) (Rows.livePlaysSpec.post enc Try.prog Try.f3 false true false false) := by
  refine returnsInHanded_of_change (C := Try.checked) own started (by kernel_rfl) Try.func3
    (ChangeSpec.witness6 (enc := enc) (C := Try.checked) false ⟨#[], #[.slice none 0 0, .slice none 0 0, .slice none 0 0, .slice none 0 0], []⟩ 8 (by kernel_rfl) (by kernel_rfl) (by kernel_rfl) (by kernel_rfl)) ?_
  intro W base args ds gs before hval0 hW hcnd _
  have hval : ∀ (j : Nat) t v, Try.f3.params[j]? = some t → args[j]? = some v → Value.okWide Try.prog W .any base t v := hval0
  have hW' := hW
  obtain ⟨p, q, hA0, hV, rfl, hfz, hnd⟩ := hW
  have hA : DataW.TrodAll enc Try.prog W 0 (fun _ => true) true Try.f3.params.toList args.toList ds p := hA0
  rw [Try.params3] at hA hval
  obtain ⟨v0, vs0, d0, ds0, p0, q0, hargs, rfl, rfl, h0, r0⟩ := trodAll_cons hA
  obtain ⟨v1, vs1, d1, ds1, p1, q1, rfl, rfl, rfl, h1, r1⟩ := trodAll_cons r0
  obtain ⟨v2, vs2, d2, ds2, p2, q2, rfl, rfl, rfl, h2, r2⟩ := trodAll_cons r1
  obtain ⟨v3, vs3, d3, ds3, p3, q3, rfl, rfl, rfl, h3, r3⟩ := trodAll_cons r2
  obtain ⟨rfl, rfl, rfl⟩ := trodAll_nil r3
  obtain rfl : args = #[v0, v1, v2, v3] := by cases args; simp_all
  obtain ⟨rfl, rfl⟩ := trodVars_none hV
  obtain ⟨a0, len0, cap0, rfl⟩ := okWide_slice Try.underlying22 (hval 0 22 v0 rfl rfl)
  have k0 := h0
  have lt0 : ∀ x ∈ p0, x.block < W.heap.size := by obtain ⟨m, hm⟩ := k0; exact DataW.trod_lt m _ _ _ hm
  have w0 : Came .u8 W.heap.size W a0 len0 ∧ len0 ≤ 9223372036854775807 := by
    obtain ⟨fuel, hf⟩ := h0
    rcases open_ints Try.underlying22 Try.underlying5 (by kernel_rfl) hf with ⟨hcs, _⟩ | ⟨x, l, c, zs, hcs, _, hl, hm, hz, _, hcell, hwz⟩
    · simp [Value.cells] at hcs
      obtain ⟨rfl, rfl, rfl⟩ := hcs
      exact came_of_row (zs := []) (.inl ⟨rfl, rfl, rfl, rfl⟩)
    · simp [Value.cells] at hcs
      obtain ⟨rfl, rfl, rfl⟩ := hcs
      exact came_of_row (.inr ⟨_, rfl, hl, hm, by simpa using hz, hcell, hwz⟩)
  obtain ⟨a1, len1, cap1, rfl⟩ := okWide_slice Try.underlying23 (hval 1 23 v1 rfl rfl)
  have k1 := h1
  have lt1 : ∀ x ∈ p1, x.block < W.heap.size := by obtain ⟨m, hm⟩ := k1; exact DataW.trod_lt m _ _ _ hm
  have w1 : Came .i64 W.heap.size W a1 len1 ∧ len1 ≤ 9223372036854775807 := by
    obtain ⟨fuel, hf⟩ := h1
    rcases open_ints Try.underlying23 Try.underlying3 (by kernel_rfl) hf with ⟨hcs, _⟩ | ⟨x, l, c, zs, hcs, _, hl, hm, hz, _, hcell, hwz⟩
    · simp [Value.cells] at hcs
      obtain ⟨rfl, rfl, rfl⟩ := hcs
      exact came_of_row (zs := []) (.inl ⟨rfl, rfl, rfl, rfl⟩)
    · simp [Value.cells] at hcs
      obtain ⟨rfl, rfl, rfl⟩ := hcs
      exact came_of_row (.inr ⟨_, rfl, hl, hm, by simpa using hz, hcell, hwz⟩)
  obtain ⟨a2, len2, cap2, rfl⟩ := okWide_slice Try.underlying23 (hval 2 23 v2 rfl rfl)
  have k2 := h2
  have lt2 : ∀ x ∈ p2, x.block < W.heap.size := by obtain ⟨m, hm⟩ := k2; exact DataW.trod_lt m _ _ _ hm
  have w2 : Came .i64 W.heap.size W a2 len2 ∧ len2 ≤ 9223372036854775807 := by
    obtain ⟨fuel, hf⟩ := h2
    rcases open_ints Try.underlying23 Try.underlying3 (by kernel_rfl) hf with ⟨hcs, _⟩ | ⟨x, l, c, zs, hcs, _, hl, hm, hz, _, hcell, hwz⟩
    · simp [Value.cells] at hcs
      obtain ⟨rfl, rfl, rfl⟩ := hcs
      exact came_of_row (zs := []) (.inl ⟨rfl, rfl, rfl, rfl⟩)
    · simp [Value.cells] at hcs
      obtain ⟨rfl, rfl, rfl⟩ := hcs
      exact came_of_row (.inr ⟨_, rfl, hl, hm, by simpa using hz, hcell, hwz⟩)
  obtain ⟨a3, len3, cap3, rfl⟩ := okWide_slice Try.underlying23 (hval 3 23 v3 rfl rfl)
  have k3 := h3
  have lt3 : ∀ x ∈ p3, x.block < W.heap.size := by obtain ⟨m, hm⟩ := k3; exact DataW.trod_lt m _ _ _ hm
  have w3 : Came .i64 W.heap.size W a3 len3 ∧ len3 ≤ 9223372036854775807 := by
    obtain ⟨fuel, hf⟩ := h3
    rcases open_ints Try.underlying23 Try.underlying3 (by kernel_rfl) hf with ⟨hcs, _⟩ | ⟨x, l, c, zs, hcs, _, hl, hm, hz, _, hcell, hwz⟩
    · simp [Value.cells] at hcs
      obtain ⟨rfl, rfl, rfl⟩ := hcs
      exact came_of_row (zs := []) (.inl ⟨rfl, rfl, rfl, rfl⟩)
    · simp [Value.cells] at hcs
      obtain ⟨rfl, rfl, rfl⟩ := hcs
      exact came_of_row (.inr ⟨_, rfl, hl, hm, by simpa using hz, hcell, hwz⟩)
  clear hA0 hval0
  refine (walk a0 len0 cap0 a1 len1 cap1 a2 len2 cap2 a3 len3 cap3 W w0.1 w0.2 w1.1 w1.2 w2.1 w2.2 w3.1 w3.2).mono fun e W' ⟨he, bel⟩ => ?_
  subst he
  exact ⟨_, rfl, _, _, _, [], _, [], hW', trodAll_mk1 (shut_bool Try.underlying4 _), (trodAll_cons_mk (Below.trod laidOut (by kernel_rfl) (of_decide_eq_true (by kernel_rfl)) k0 bel lt0) (trodAll_cons_mk (Below.trod laidOut (by kernel_rfl) (of_decide_eq_true (by kernel_rfl)) k1 bel lt1) (trodAll_cons_mk (Below.trod laidOut (by kernel_rfl) (of_decide_eq_true (by kernel_rfl)) k2 bel lt2) (trodAll_cons_mk (Below.trod laidOut (by kernel_rfl) (of_decide_eq_true (by kernel_rfl)) k3 bel lt3) trodAll_mk0)))), rfl, bel.frame _, fun h => by cases h⟩

theorem over : Rows.livePlaysRow.holds Try.pinned (OpenSpec.ofChange Rows.livePlaysSpec) :=
  OpenClaim.holds_of_wide 3 Try.f3 rfl rfl rfl rfl rfl rfl rfl ⟨rfl, rfl, rfl, rfl, rfl⟩ rfl rfl rfl rfl rfl (by kernel_rfl) Try.func3 (by kernel_rfl)
    (of_decide_eq_true (by kernel_rfl)) (by unfold Func.isWrapper; first | (rw [if_pos (by decide +kernel)]; kernel_rfl) | (rw [if_neg (by decide +kernel)]; exact ⟨rfl, rfl⟩))
    (fun os started H enc _ => lifted os started H enc)

theorem proved : Rows.LivePlaysSaid := over
end Go.Proofs.Ytppbldhahddopaa.livePlays
namespace Go.Proofs.Ytppbldhahddopaa
theorem livePlays_holds : Rows.LivePlaysSaid := livePlays.proved
#print axioms livePlays_holds
end Go.Proofs.Ytppbldhahddopaa
