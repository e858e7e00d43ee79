/- For every list of words laid into a memory of three frames, every frame's number and every head: a head that Put takes is just what Get then reads; a frame that Make made with it has that head, is of its kind and has no other word than 0 behind it; and Put refuses only what Check refuses or a frame that there is not. Conditions: none but that package head's table of widths starts as the program's text lays it (tied). -/
import Derived.Test.YtlpnnpapeoahkaaDoorRows
import Derived.Test.YtlpnnpapeoahkaaDoorTie
import Derived.Test.YtlpnnpapeoahkaaDoorCards
import Derived.Test.YtlpnnpapeoahkaaDoorHdK
import Derived.Deep.CutBlock
import Derived.WalkKit
import Derived.ProofKit
import Derived.OpenShut
import Derived.ShutString
import Derived.ChangeOld
import Derived.Below
import Derived.LaidMore
import Derived.Stop.Joined
import Derived.SevenTiedAt
namespace Go.Proofs.YtlpnnpapeoahkaaDoor.headBack
open Go.ChangeShapes Go.WideShapes Go.ChangeAt Go.RowKit
set_option linter.unusedVariables false

theorem own : ownKnob Tryd.prog.godebug = none := by kernel_rfl
theorem laidOut : laidOutB Tryd.prog = true := by kernel_rfl

set_option maxRecDepth 100000 in
set_option maxHeartbeats 2000000 in
theorem walk_bad (a0 : Option Addr) (len0 cap0 : Nat) (f k l : Int) (z : Bool) (t : Int) (w : World) (w0 : Hid (Came .u64 w.heap.size w a0 len0)) (l0 : len0 ≤ 9223372036854775807) (HW : Hid (TabW w)) (hp : ¬ Rt k l z t) :
    Calls Tryd.prog 4 #[.slice a0 len0 cap0, .int .i64 f, .agg #[.int .i64 k, .int .i64 l, .bool z, .int .i64 t]] w fun e w' => e = .returned (.bool true) ∧ Below w.heap.size w w' := by
  have hc : chk k l z t = 1 := chk_no hp
  have he : ∀ N, errP N f k l z t = 1 := fun N => by simp [errP, rtB_no hp]
  clear hp
  go_enter Tryd.func4, Tryd.ntmps4
  go_wp2_with (first
    | (go_at_call 6; refine (laid_any a0 len0 cap0 3 _ (by omega) (by omega) (w0.out.on (bal (Below.refl _ _) _)) l0).mono ?_; rintro e1 w1 ⟨he, M, hF, hB⟩; have HS := st_laid HW.out hF hB; clear hF hB; generalize (World.alloc _ _).heap.size = b at he HS; subst he; generalize b + 2 = q; have HT : Hid (St w w1 (b + 1) b 3 M k l z t) := HS; clear HS; generalize b + 1 = p at HT ⊢; have x0 := HT.out.box.c0; have x1 := HT.out.box.c1; have x2 := HT.out.box.c2; have x3 := HT.out.box.c3)
    | (go_at_call 7; refine (hput_any _ _ 3 f k l z t M _ (by omega) (by omega) HT.out.mem HT.out.tab).mono ?_; rintro e2 w2 ⟨rfl, hM2, hB2⟩; rw [he]; have HT2 : Hid (St w w2 p b 3 (putM 3 M f k l z t) k l z t) := HT.out.but hM2 (HT.out.fit.put 3 f k l z t) hB2; clear hM2 hB2 HT x0 x1 x2 x3; generalize putM 3 M f k l z t = M2 at HT2)
    | (go_at_call 13; refine (hget_any _ _ 3 f M2 _ (by omega) (by omega) HT2.out.mem HT2.out.tab HT2.out.fit).mono ?_; rintro e3 w3 ⟨rfl, hB3⟩; have HT3 : Hid (St w w3 p b 3 M2 k l z t) := HT2.out.on hB3; clear hB3 HT2; have x0 := HT3.out.box.c0; have x1 := HT3.out.box.c1; have x2 := HT3.out.box.c2; have x3 := HT3.out.box.c3; have xl := HT3.out.box.lt)
    | (go_at_call 11; refine (check_any k l z t _).mono ?_; rintro e4 w4 ⟨rfl, hB4⟩; rw [hc]; have H4 : Hid (Below w.heap.size w w4) := HT3.out.below.trans (((bal (Below.refl _ _) _).trans (hB4.mono (by simp))).mono HT3.out.below.size); clear hB4)
    | (go_at_call 18; refine (awake_any _).mono ?_; rintro e5 w5 ⟨rfl, hB5⟩; have H5 : Hid (Below w.heap.size w w5) := H4.out.trans (hB5.mono H4.out.size); clear hB5)
    | fail)
  go_ret
  exact ⟨rfl, H5.out⟩
set_option maxRecDepth 100000 in
set_option maxHeartbeats 2000000 in
theorem walk_out (a0 : Option Addr) (len0 cap0 : Nat) (f k l : Int) (z : Bool) (t : Int) (w : World) (w0 : Hid (Came .u64 w.heap.size w a0 len0)) (l0 : len0 ≤ 9223372036854775807) (HW : Hid (TabW w)) (hp : Rt k l z t) (hf : f < 0 ∨ 2 < f) :
    Calls Tryd.prog 4 #[.slice a0 len0 cap0, .int .i64 f, .agg #[.int .i64 k, .int .i64 l, .bool z, .int .i64 t]] w fun e w' => e = .returned (.bool true) ∧ Below w.heap.size w w' := by
  have hc : chk k l z t = 0 := chk_yes hp
  have hok : okF 3 f = false := by simp [okF]; omega
  have he : errP 3 f k l z t = 1 := by simp [errP, rtB_yes hp, errF, hok]
  clear hp hok
  have hff : f < 0 ∨ (¬ f < 0 ∧ 2 < f) := by omega
  clear hf
  rcases hff with h1 | ⟨h1, h2⟩
  all_goals
    go_enter Tryd.func4, Tryd.ntmps4
    go_wp2_with (first
      | (go_at_call 6; refine (laid_any a0 len0 cap0 3 _ (by omega) (by omega) (w0.out.on (bal (Below.refl _ _) _)) l0).mono ?_; rintro e1 w1 ⟨he, M, hF, hB⟩; have HS := st_laid HW.out hF hB; clear hF hB; generalize (World.alloc _ _).heap.size = b at he HS; subst he; generalize b + 2 = q; have HT : Hid (St w w1 (b + 1) b 3 M k l z t) := HS; clear HS; generalize b + 1 = p at HT ⊢; have x0 := HT.out.box.c0; have x1 := HT.out.box.c1; have x2 := HT.out.box.c2; have x3 := HT.out.box.c3)
      | (go_at_call 7; refine (hput_any _ _ 3 f k l z t M _ (by omega) (by omega) HT.out.mem HT.out.tab).mono ?_; rintro e2 w2 ⟨rfl, hM2, hB2⟩; rw [he]; have HT2 : Hid (St w w2 p b 3 (putM 3 M f k l z t) k l z t) := HT.out.but hM2 (HT.out.fit.put 3 f k l z t) hB2; clear hM2 hB2 HT x0 x1 x2 x3)
      | (go_at_call 13; refine (hget_any _ _ 3 f _ _ (by omega) (by omega) HT2.out.mem HT2.out.tab HT2.out.fit).mono ?_; rintro e3 w3 ⟨rfl, hB3⟩; have HT3 : Hid (St w w3 p b 3 (putM 3 M f k l z t) k l z t) := HT2.out.on hB3; clear hB3 HT2; have x0 := HT3.out.box.c0; have x1 := HT3.out.box.c1; have x2 := HT3.out.box.c2; have x3 := HT3.out.box.c3; have xl := HT3.out.box.lt)
      | (go_at_call 11; refine (check_any k l z t _).mono ?_; rintro e4 w4 ⟨rfl, hB4⟩; rw [hc]; have H4 : Hid (Below w.heap.size w w4) := HT3.out.below.trans (((bal (Below.refl _ _) _).trans (hB4.mono (by simp))).mono HT3.out.below.size); clear hB4)
      | (go_at_call 18; refine (awake_any _).mono ?_; rintro e5 w5 ⟨rfl, hB5⟩; have H5 : Hid (Below w.heap.size w w5) := H4.out.trans (hB5.mono H4.out.size); clear hB5)
      | fail)
    go_ret
    exact ⟨rfl, H5.out⟩
set_option maxRecDepth 100000 in
set_option maxHeartbeats 4000000 in
theorem walk_ok (a0 : Option Addr) (len0 cap0 f : Nat) (k l : Int) (z : Bool) (t : Int) (w : World) (w0 : Hid (Came .u64 w.heap.size w a0 len0)) (l0 : len0 ≤ 9223372036854775807) (HW : Hid (TabW w)) (hp : Rt k l z t) (hf : f < 3) :
    Calls Tryd.prog 4 #[.slice a0 len0 cap0, .int .i64 f, .agg #[.int .i64 k, .int .i64 l, .bool z, .int .i64 t]] w fun e w' => e = .returned (.bool true) ∧ Below w.heap.size w w' := by
  have he : errP 3 f k l z t = 0 := by simp [errP, rtB_yes hp, errF, okF_nat hf]
  have HG : Hid (∀ M, ghK 3 (putM 3 M f k l z t) f = k ∧ ghL 3 (putM 3 M f k l z t) f = l ∧ ghZ 3 (putM 3 M f k l z t) f = z ∧ ghT 3 (putM 3 M f k l z t) f = t ∧ ghE 3 (putM 3 M f k l z t) f = 0) := fun M => by
    rw [show putM 3 M f k l z t = st4 3 M f (wd0 k l z) t 0 0 by simp [putM, rtB_yes hp]]
    exact put_got hf hp
  have HG2 : Hid (∀ M, ghK 3 (mkM 3 M f k l z t) f = k ∧ ghL 3 (mkM 3 M f k l z t) f = l ∧ ghZ 3 (mkM 3 M f k l z t) f = z ∧ ghT 3 (mkM 3 M f k l z t) f = t ∧ ghE 3 (mkM 3 M f k l z t) f = 0) := fun M => by
    rw [show mkM 3 M f k l z t = st4 3 (clM 3 M f) f (wd0 k l z) t 0 0 by simp [mkM, rtB_yes hp]]
    exact put_got hf hp
  have HZ : Hid (∀ M j, 4 ≤ j → mkM 3 M f k l z t f j = 0) := fun M j hj => by
    rw [show mkM 3 M f k l z t = st4 3 (clM 3 M f) f (wd0 k l z) t 0 0 by simp [mkM, rtB_yes hp]]
    exact made_zero hf hj
  have heq := eqlH k l z t
  have HF : Hid (f < 3) := hf
  clear hp hf
  go_enter Tryd.func4, Tryd.ntmps4
  go_upto_region 6 with (first
    | (go_at_call 6; refine (laid_any a0 len0 cap0 3 _ (by omega) (by omega) (w0.out.on (bal (Below.refl _ _) _)) l0).mono ?_; rintro e1 w1 ⟨he, M, hF, hB⟩; have HS := st_laid HW.out hF hB; clear hF hB; generalize (World.alloc _ _).heap.size = b at he HS; subst he; generalize b + 2 = q; have HT : Hid (St w w1 (b + 1) b 3 M k l z t) := HS; clear HS; generalize b + 1 = p at HT ⊢; have x0 := HT.out.box.c0; have x1 := HT.out.box.c1; have x2 := HT.out.box.c2; have x3 := HT.out.box.c3)
    | (go_at_call 7; refine (hput_any _ _ 3 f k l z t M _ (by omega) (by omega) HT.out.mem HT.out.tab).mono ?_; rintro e2 w2 ⟨rfl, hM2, hB2⟩; rw [he]; have HT2 : Hid (St w w2 p b 3 (putM 3 M f k l z t) k l z t) := HT.out.but hM2 (HT.out.fit.put 3 f k l z t) hB2; clear hM2 hB2 HT x0 x1 x2 x3)
    | (go_at_call 13; have hh := hget_any p b 3 f _ _ (by omega) (by omega) HT2.out.mem HT2.out.tab HT2.out.fit; rw [(HG.out M).1, (HG.out M).2.1, (HG.out M).2.2.1, (HG.out M).2.2.2.1, (HG.out M).2.2.2.2] at hh; refine hh.mono ?_; clear hh; rintro e3 w3 ⟨rfl, hB3⟩; have HT3 : Hid (St w w3 p b 3 (putM 3 M f k l z t) k l z t) := HT2.out.on hB3; clear hB3 HT2)
    | fail)
  have K3 := st_head HT3.out k l z t 33
  clear HT3
  generalize w3.alloc _ = v3 at K3 ⊢
  generalize w3.heap.size = Da at K3 ⊢
  generalize putM 3 M f k l z t = M1 at K3
  have HT3 : Hid (St w v3 p b 3 M1 k l z t) := K3.1
  have HA3 : Hid (Box4 v3 Da k l z t) := K3.2.1
  have HN3 : Hid (Da ≠ b) := K3.2.2
  clear K3
  have x0 := HT3.out.box.c0
  have x1 := HT3.out.box.c1
  have x2 := HT3.out.box.c2
  have x3 := HT3.out.box.c3
  go_upto_region 10 with (first
    | (go_at_call 9; refine (hmake_any _ _ 3 f k l z t M1 _ (by omega) (by omega) HT3.out.mem HT3.out.tab).mono ?_; rintro e4 w4 ⟨rfl, hM4, hB4⟩; rw [he]; have HT4 : Hid (St w w4 p b 3 (mkM 3 M1 f k l z t) k l z t) := HT3.out.but hM4 (HT3.out.fit.mk 3 f k l z t) hB4; have HA4 : Hid (Box4 w4 Da k l z t) := HA3.out.but hB4 HN3.out; clear hM4 hB4 HT3 HA3 x0 x1 x2 x3)
    | (go_at_call 19; refine (words_ok _ _ 3 f _ _ HF.out (by omega) HT4.out.mem).mono ?_; rintro e5 w5 ⟨rfl, hw5⟩; have B5 : Below w4.heap.size w4 w5 := (by rw [hw5]; exact bal (Below.refl _ _) _); have HT5 : Hid (St w w5 p b 3 (mkM 3 M1 f k l z t) k l z t) := HT4.out.on B5; have HA5 : Hid (Box4 w5 Da k l z t) := HA4.out.on B5; have HC : Hid (∀ j, 4 ≤ j → j < 36 → w5.cell? ⟨w4.heap.size, j, none⟩ = some (.int .u64 0)) := (fun j h4 hj => by rw [hw5, wordsW, World.cell?_alloc_new, List.getElem?_toArray, frameM_get hj, HZ.out M1 j h4]); clear hw5 B5 HT4 HA4)
    | fail)
  generalize w4.heap.size = E at HC ⊢
  go_wp2
  go_loopw [15, 16] (fun n i wr => n = .int .i64 0 ∧ wr = w5 ∧ ∃ j : Nat, 4 ≤ j ∧ j ≤ 36 ∧ i = .int .i64 j) (fun _ i _ => 36 - (intOf i).toNat)
  case atStart => exact ⟨rfl, rfl, 4, by omega, by omega, rfl⟩
  case round =>
    obtain ⟨rfl, rfl, j, h4, hj, rfl⟩ := hrel
    by_cases hlt : j < 36
    · have hji : (j : Int) < 36 := by omega
      have hc := HC.out j h4 hlt
      go_wp2
      go_roundw
      case rel => first | exact ⟨rfl, rfl, j + 1, by omega, by omega, by go_num⟩ | exact ⟨rfl, trivial, j + 1, by omega, by omega, by go_num⟩
      case measure => simp [intOf]; omega
    · obtain rfl : j = 36 := by omega
      go_upto_region 17 with (first
        | (go_at_call 13; have hh := hget_any p b 3 f _ _ (by omega) (by omega) HT5.out.mem HT5.out.tab HT5.out.fit; rw [(HG2.out M1).1, (HG2.out M1).2.1, (HG2.out M1).2.2.1, (HG2.out M1).2.2.2.1, (HG2.out M1).2.2.2.2] at hh; refine hh.mono ?_; clear hh; rintro e6 w6 ⟨rfl, hB6⟩; have HT6 : Hid (St w w6 p b 3 (mkM 3 M1 f k l z t) k l z t) := HT5.out.on hB6; have HA6 : Hid (Box4 w6 Da k l z t) := HA5.out.on hB6; clear hB6)
        | fail)
      have K6 := st_head HT6.out k l z t 33
      have A6 := HA6.out.on (bal (Below.refl w6.heap.size w6) (.cells #[.int .i64 k, .int .i64 l, .bool z, .int .i64 t] 33))
      clear HT6 HA6
      generalize w6.alloc _ = v6 at K6 A6 ⊢
      generalize w6.heap.size = Db at K6 ⊢
      have HT6 : Hid (St w v6 p b 3 (mkM 3 M1 f k l z t) k l z t) := K6.1
      have x0 := HT6.out.box.c0
      have x1 := HT6.out.box.c1
      have x2 := HT6.out.box.c2
      have x3 := HT6.out.box.c3
      have y0 := A6.c0
      have y1 := A6.c1
      have y2 := A6.c2
      have y3 := A6.c3
      have z0 := K6.2.1.c0
      have z1 := K6.2.1.c1
      have z2 := K6.2.1.c2
      have z3 := K6.2.1.c3
      clear K6 A6
      have hi : isE 3 (mkM 3 M1 f k l z t) f k = 0 := by
        unfold isE
        rw [(HG2.out M1).2.2.2.2, (HG2.out M1).1]
        simp
      go_wp2_with (first
        | (go_at_call 15; refine (his_any _ _ 3 f k _ _ (by omega) (by omega) HT6.out.mem HT6.out.tab HT6.out.fit).mono ?_; rintro e7 w7 ⟨rfl, hB7⟩; rw [hi]; have H7 : Hid (Below w.heap.size w w7) := HT6.out.below.trans (hB7.mono HT6.out.below.size); clear hB7)
        | (go_at_call 18; refine (awake_any _).mono ?_; rintro e8 w8 ⟨rfl, hB8⟩; have H8 : Hid (Below w.heap.size w w8) := H7.out.trans (hB8.mono H7.out.size); clear hB8)
        | fail)
      go_ret
      exact ⟨rfl, H8.out⟩

theorem walk (a0 : Option Addr) (len0 cap0 : Nat) (a1 : Int) (a2k a2l : Int) (a2z : Bool) (a2t : Int) (w : World) (w0 : Hid (Came .u64 w.heap.size w a0 len0)) (l0 : len0 ≤ 9223372036854775807) (w1 : (Lit.int .i64 a1).wf = true) (hW : TabW w) :
    Calls Tryd.prog 4 #[.slice a0 len0 cap0, .int .i64 a1, .agg #[.int .i64 a2k, .int .i64 a2l, .bool a2z, .int .i64 a2t]] w fun e w' => e = .returned (.bool true) ∧ Below w.heap.size w w' := by
  by_cases hp : Rt a2k a2l a2z a2t
  · by_cases hf : 0 ≤ a1 ∧ a1 < 3
    · obtain ⟨n, rfl⟩ := Int.eq_ofNat_of_zero_le hf.1
      exact walk_ok a0 len0 cap0 n a2k a2l a2z a2t w w0 l0 hW hp (by omega)
    · exact walk_out a0 len0 cap0 a1 a2k a2l a2z a2t w w0 l0 hW hp (by omega)
  · exact walk_bad a0 len0 cap0 a1 a2k a2l a2z a2t w w0 l0 hW hp

/-! ### The statement's frame -/
/-- The heap that the program's own initialisers leave meets the condition. -/
theorem door_met (os : Os) (args : Array Value) : laidMetH Tryd.prog Rows.headBackRow.laid ((World.doorLaid Tryd.prog 400 os).forCall (fun _ _ => 0) ⟨#[], args, []⟩).memory :=
  laidMetH_of_parts3 (fuel := 8) (laidMet_of_run' 8 (by kernel_rfl) (by kernel_rfl)) (by kernel_rfl) (by kernel_rfl)
set_option maxRecDepth 100000 in
theorem lifted (os : Os) (started : os.Started) (H : Type) (enc : TypeId × Value → H) :
    ReturnsInHanded {} Tryd.checked os 4 .any (fun w args => (Rows.headBackSpec.pre enc Tryd.prog Tryd.f4 [] false w args ∧ laidMetH Tryd.prog Rows.headBackRow.laid w) ∧ sizedMet enc Tryd.prog Tryd.f4 (OpenSpec.ofChange Rows.headBackSpec) false w args) (Rows.headBackSpec.post enc Tryd.prog Tryd.f4 false true false false) := by
  refine returnsInHanded_of_change_and (C := Tryd.checked) (X := fun w _ => laidMetH Tryd.prog Rows.headBackRow.laid w) (fun _ _ _ hh h => h.of_heap hh) own started (by kernel_rfl) Tryd.func4
    (ChangeSpec.witness_shaped (enc := enc) (C := Tryd.checked) (os := os) (X := fun w _ => laidMetH Tryd.prog Rows.headBackRow.laid w) false (World.doorLaid Tryd.prog 400 os) #[.slice none 0 0, .int .i64 0, .agg #[.int .i64 0, .int .i64 0, .bool false, .int .i64 0]] 8 rfl (World.shaped_of_RefB (by kernel_rfl) (by kernel_rfl)) (by kernel_rfl) (by kernel_rfl) (by kernel_rfl) (door_met os _)) ?_
  intro W base args ds gs before hval0 hW _ _ hL _
  have hval : ∀ (j : Nat) t v, Tryd.f4.params[j]? = some t → args[j]? = some v → Value.okWide Tryd.prog W .any base t v := hval0
  have hW' := hW
  obtain ⟨p, q, hA0, hV, rfl, hfz, hnd⟩ := hW
  have hA : DataW.TrodAll enc Tryd.prog W 0 (fun _ => true) true Tryd.f4.params.toList args.toList ds p := hA0
  rw [Tryd.params4] at hA hval
  obtain ⟨v0, vs0, d0, ds0, p0, q0, hargs, rfl, rfl, h0, r0⟩ := trodAll_cons hA
  obtain ⟨v1, vs1, d1, ds1, p1, q1, rfl, rfl, rfl, h1, r1⟩ := trodAll_cons r0
  obtain ⟨v2, vs2, d2, ds2, p2, q2, rfl, rfl, rfl, h2, r2⟩ := trodAll_cons r1
  obtain ⟨rfl, rfl, rfl⟩ := trodAll_nil r2
  obtain rfl : args = #[v0, v1, v2] := by cases args; simp_all
  obtain ⟨rfl, rfl⟩ := trodVars_none hV
  obtain ⟨a0, len0, cap0, rfl⟩ := okWide_slice Tryd.underlying22 (hval 0 22 v0 rfl rfl)
  have k0 := h0
  have lt0 : ∀ x ∈ p0, x.block < W.heap.size := by obtain ⟨m, hm⟩ := k0; exact DataW.trod_lt m _ _ _ hm
  have w0 : Came .u64 W.heap.size W a0 len0 ∧ len0 ≤ 9223372036854775807 := by
    obtain ⟨fuel, hf⟩ := h0
    rcases open_ints Tryd.underlying22 Tryd.underlying48 (by kernel_rfl) hf with ⟨hcs, _⟩ | ⟨x, l, c, zs, hcs, _, hl, hm, hz, _, hcell, hwz⟩
    · simp [Value.cells] at hcs
      obtain ⟨rfl, rfl, rfl⟩ := hcs
      exact came_of_row (zs := []) (.inl ⟨rfl, rfl, rfl, rfl⟩)
    · simp [Value.cells] at hcs
      obtain ⟨rfl, rfl, rfl⟩ := hcs
      exact came_of_row (.inr ⟨_, rfl, hl, hm, by simpa using hz, hcell, hwz⟩)
  obtain ⟨a1, rfl, rfl, rfl, w1⟩ := open_int Tryd.underlying3 (hval 1 3 v1 rfl rfl) h1
  have k2 := h2
  have lt2 : ∀ x ∈ p2, x.block < W.heap.size := by obtain ⟨m, hm⟩ := k2; exact DataW.trod_lt m _ _ _ hm
  obtain ⟨a2k, a2l, a2z, a2t, rfl⟩ := head_val (hval 2 33 v2 rfl rfl) h2
  clear hA0 hval0
  refine (walk a0 len0 cap0 a1 a2k a2l a2z a2t W w0.1 w0.2 w1 (of_laid hL)).mono fun e W' ⟨he, bel⟩ => ?_
  subst he
  exact ⟨_, rfl, _, _, _, [], _, [], hW', trodAll_mk1 (shut_bool Tryd.underlying4 _), (trodAll_cons_mk (Below.trod laidOut (by kernel_rfl) (of_decide_eq_true (by kernel_rfl)) k0 bel lt0) (trodAll_cons_mk (shut_int Tryd.underlying3 w1) (trodAll_cons_mk (Below.trod laidOut (by kernel_rfl) (of_decide_eq_true (by kernel_rfl)) k2 bel lt2) trodAll_mk0))), rfl, bel.frame _, fun h => by cases h⟩

theorem over : Rows.headBackRow.holds Tryd.pinned (OpenSpec.ofChange Rows.headBackSpec) :=
  OpenClaim.holds_of_wide 4 Tryd.f4 rfl rfl rfl rfl rfl rfl rfl ⟨rfl, rfl, rfl, rfl, rfl⟩ rfl rfl rfl rfl rfl (by kernel_rfl) Tryd.func4 (by kernel_rfl)
    (of_decide_eq_true (by kernel_rfl)) (by unfold Func.isWrapper; first | (rw [if_pos (by decide +kernel)]; kernel_rfl) | (rw [if_neg (by decide +kernel)]; exact ⟨rfl, rfl⟩))
    (fun os started H enc _ => lifted os started H enc)

theorem proved : Rows.HeadBackCardSaid :=
  Claim7.holds_tied_plain_at .later [] [.data] true (true, "9f2baa4341344afafe72d5f32ba4b545fe19e605ac74589830f02a71c48f995a") false
    over (fun _ h => by cases h) (by kernel_rfl) (fun _ h => by cases h) headBack_row_tie rfl ⟨rfl, rfl⟩ (by kernel_rfl) rfl
    (fun g fn hf hfn => by
      obtain rfl : g = 4 := Option.some.inj ((show Tryd.prog.funcNamed Rows.headBackRow.func = some 4 by kernel_rfl).symm.trans hf) |>.symm
      obtain rfl : fn = Tryd.f4 := (Option.some.inj (Tryd.func4.symm.trans hfn)).symm
      exact ⟨by kernel_rfl, fun j t ht => by
        rw [Tryd.params4] at ht
        have hm : t ∈ [22, 3, 33] := by simpa using Array.mem_of_getElem? ht
        have hall : ([22, 3, 33].all fun u => !Tryd.prog.wantsStandIn u) = true := by kernel_rfl
        exact (show Tryd.prog.wantsStandIn t = false by simpa using List.all_eq_true.1 hall t hm)⟩)
    (by kernel_rfl)
end Go.Proofs.YtlpnnpapeoahkaaDoor.headBack
namespace Go.Proofs.YtlpnnpapeoahkaaDoor
theorem headBack_holds : Rows.HeadBackCardSaid := headBack.proved
#print axioms headBack_holds
end Go.Proofs.YtlpnnpapeoahkaaDoor
