/- For every list of words laid into a memory of three frames, every frame's number and every head: Put changes no word of any other frame and none of its own frame's words behind the first four; and where it refuses, no word at all. Conditions: none but that package head's table of widths starts as the program's text lays it (tied). -/
import Derived.Test.YtlpnnpapeoahkaaDoorRows
import Derived.Test.YtlpnnpapeoahkaaDoorTie
import Derived.Test.YtlpnnpapeoahkaaDoorCards
import Derived.Test.YtlpnnpapeoahkaaDoorHdK
import Derived.Deep.CutBlock
import Derived.WalkKit
import Derived.ProofKit
import Derived.OpenShut
import Derived.ShutString
import Derived.ChangeOld
import Derived.Below
import Derived.LaidMore
import Derived.Stop.Joined
import Derived.SevenTiedAt
namespace Go.Proofs.YtlpnnpapeoahkaaDoor.headOne
open Go.ChangeShapes Go.WideShapes Go.ChangeAt Go.RowKit
set_option linter.unusedVariables false

theorem own : ownKnob Tryd.prog.godebug = none := by kernel_rfl
theorem laidOut : laidOutB Tryd.prog = true := by kernel_rfl

/-- A memory and, beside it, the document's with the words of before. -/
structure Duo (w0 w : World) (p b q : Nat) (M M' : Nat → Nat → Int) : Prop where
  mem : MemIs w p b 3 M'
  ref : RefIs w q q 3 M
  below : Below w0.heap.size w0 w
theorem Duo.on {w0 w w' : World} {p b q : Nat} {M M' : Nat → Nat → Int} (h : Duo w0 w p b q M M') (hB : Below w.heap.size w w') : Duo w0 w' p b q M M' :=
  ⟨h.mem.grown hB, h.ref.on fun k _ hk => hB.block k hk, h.below.trans (hB.mono h.below.size)⟩
theorem duo_of {w0 w1 w2 : World} {p b q : Nat} {M M' : Nat → Nat → Int} {k l t : Int} {z : Bool} (h : St w0 w1 p b 3 M k l z t) (hR : RefIs w1 q q 3 M) (hq : b < q) (hM : MemIs w2 p b 3 M') (hB : But b w1 w2) : Duo w0 w2 p b q M M' :=
  ⟨hM, hR.on fun i hi hs => hB.block i hs (by omega), h.below.trans (hB.below (Nat.le_of_lt h.lo) h.below.size)⟩
/-- What Put changes. -/
theorem put_only {M : Nat → Nat → Int} {f k l t : Int} {z : Bool} {g j : Nat} (h : putM 3 M f k l z t g j ≠ M g j) : errP 3 f k l z t = 0 ∧ (g : Int) = f ∧ j < 4 := by
  unfold putM at h
  split at h
  · rename_i hr
    cases hf : okF 3 f
    · rw [st4_bad hf] at h
      exact absurd rfl h
    · by_cases hg : (g : Int) = f
      · by_cases hj : j < 4
        · exact ⟨by simp [errP, hr, errF, hf], hg, hj⟩
        · exact absurd (st4_other (.inr (by omega)) _ _ _ _) h
      · exact absurd (st4_other (.inl hg) _ _ _ _) h
  · exact absurd rfl h

theorem walk (a0 : Option Addr) (len0 cap0 : Nat) (a1 : Int) (a2k a2l : Int) (a2z : Bool) (a2t : Int) (w : World) (w0 : Hid (Came .u64 w.heap.size w a0 len0)) (l0 : len0 ≤ 9223372036854775807) (w1 : (Lit.int .i64 a1).wf = true) (hW : TabW w) :
    Calls Tryd.prog 5 #[.slice a0 len0 cap0, .int .i64 a1, .agg #[.int .i64 a2k, .int .i64 a2l, .bool a2z, .int .i64 a2t]] w fun e w' => e = .returned (.bool true) ∧ Below w.heap.size w w' := by
  have HW : Hid (TabW w) := hW
  clear hW
  obtain ⟨E, hE⟩ : ∃ E, E = errP 3 a1 a2k a2l a2z a2t := ⟨_, rfl⟩
  have HO : Hid (∀ M (g j : Nat), putM 3 M a1 a2k a2l a2z a2t g j ≠ M g j → E = 0 ∧ (g : Int) = a1 ∧ j < 4) := fun M g j h => by rw [hE]; exact put_only h
  have HE : Hid (errP 3 a1 a2k a2l a2z a2t = E) := hE.symm
  clear hE w1
  go_enter Tryd.func5, Tryd.ntmps5
  go_wp2_with (first
    | (go_at_call 6; refine (laid_any a0 len0 cap0 3 _ (by omega) (by omega) (w0.out.on (bal (Below.refl _ _) _)) l0).mono ?_; rintro e1 w1 ⟨he, M, hF, hB⟩; have HS := st_laid HW.out hF hB; have HR := hB.ref; clear hF hB; generalize (World.alloc _ _).heap.size = b at he HS HR; subst he; have HQ : Hid (b < b + 2) := (by show b < b + 2; omega); have HT : Hid (St w w1 (b + 1) b 3 M a2k a2l a2z a2t) := HS; have HR1 : Hid (RefIs w1 (b + 2) (b + 2) 3 M) := HR; clear HS HR; generalize b + 2 = q at HQ HR1 ⊢; generalize b + 1 = p at HT ⊢; have x0 := HT.out.box.c0; have x1 := HT.out.box.c1; have x2 := HT.out.box.c2; have x3 := HT.out.box.c3)
    | (go_at_call 7; refine (hput_any _ _ 3 a1 a2k a2l a2z a2t M _ (by omega) (by omega) HT.out.mem HT.out.tab).mono ?_; rintro e2 w2 ⟨rfl, hM2, hB2⟩; rw [HE.out]; have HD : Hid (Duo w w2 p b q M (putM 3 M a1 a2k a2l a2z a2t)) := duo_of HT.out HR1.out HQ.out hM2 hB2; clear hM2 hB2 HT HR1 x0 x1 x2 x3)
    | fail)
  have HP := HO.out M
  generalize putM 3 M a1 a2k a2l a2z a2t = M2 at HD HP
  have HO2 : Hid (∀ (g j : Nat), M2 g j ≠ M g j → E = 0 ∧ (g : Int) = a1 ∧ j < 4) := HP
  clear HP HO HE
  go_loopw [10] (fun i wr => ∃ g : Nat, g ≤ 3 ∧ i = .int .i64 g ∧ Below w2.heap.size w2 wr) (fun i _ => 3 - (intOf i).toNat)
  case atStart => exact ⟨0, by omega, rfl, Below.refl _ _⟩
  case round =>
    obtain ⟨g, hg, rfl, hB⟩ := hrel
    obtain ⟨wo, hwo⟩ : ∃ wo, wo = wr := ⟨_, rfl⟩
    subst hwo
    have HB : Hid (Below w2.heap.size w2 wo) := hB
    have HI : Hid (Duo w wo p b q M M2) := HD.out.on hB
    clear hB
    obtain ⟨s, cap, r, c, hp, hg0, hw0, _, _⟩ := HI.out.ref.parts (by omega)
    by_cases hlt : g < 3
    · have hgi : (g : Int) < 3 := by omega
      have hgk := hg0 g hlt
      have HV : Hid (∀ j, j < 36 → wo.cell? ⟨r g, j, none⟩ = some (.int .u64 (M g j))) := fun j hj => (hw0 g j hlt hj).1
      clear hg0 hw0
      generalize r g = x at hgk HV
      generalize c g = cx at hgk
      have HPP : Hid (wo.cell? ⟨q, 0, none⟩ = some (.slice (some ⟨s, 0, none⟩) 3 cap)) := hp
      have HGG : Hid (wo.cell? ⟨s, g, none⟩ = some (.slice (some ⟨x, 0, none⟩) 36 cx)) := hgk
      clear hp hgk
      go_wp2_with (first
        | (go_at_call 19; refine (words_ok p b 3 g M2 _ hlt (by omega) HI.out.mem).mono ?_; rintro e w3 ⟨rfl, hw3⟩; have B1 : Below wo.heap.size wo w3 := (by rw [hw3]; exact bal (Below.refl _ _) _); have H1 : Hid (Below wo.heap.size wo w3) := B1; have HL : Hid (∀ j, j < 36 → w3.cell? ⟨wo.heap.size, j, none⟩ = some (.int .u64 (M2 g j))) := (fun j hj => by rw [hw3, wordsW, World.cell?_alloc_new, List.getElem?_toArray, frameM_get hj]); clear hw3; have HP1 : Hid (w3.cell? ⟨q, 0, none⟩ = some (.slice (some ⟨s, 0, none⟩) 3 cap)) := (B1.cell (p := ⟨q, 0, none⟩) (World.block_lt_of_cell? wo _ HPP.out)).trans HPP.out; have HG1 : Hid (w3.cell? ⟨s, g, none⟩ = some (.slice (some ⟨x, 0, none⟩) 36 cx)) := (B1.cell (p := ⟨s, g, none⟩) (World.block_lt_of_cell? wo _ HGG.out)).trans HGG.out; have HV1 : Hid (∀ j, j < 36 → w3.cell? ⟨x, j, none⟩ = some (.int .u64 (M g j))) := (fun j hj => (B1.cell (p := ⟨x, j, none⟩) (World.block_lt_of_cell? wo _ (HV.out j hj))).trans (HV.out j hj)); clear B1)
        | fail)
      clear HV HPP HGG
      generalize wo.heap.size = D at HL ⊢
      go_loopw [13] (fun i wr => ∃ j n : Nat, j ≤ 36 ∧ i = .int .i64 j ∧ wr = w3.drewN n) (fun i _ => 36 - (intOf i).toNat)
      case atStart => exact ⟨0, 0, by omega, rfl, rfl⟩
      case round =>
        obtain ⟨j, n, hj, rfl, hwr0⟩ := hrel
        have hwr : Hid (wr = w3.drewN n) := hwr0
        have h3 : wr.cell? ⟨q, 0, none⟩ = some (.slice (some ⟨s, 0, none⟩) 3 cap) := by rw [hwr0]; exact HP1.out
        have h4 : wr.cell? ⟨s, g, none⟩ = some (.slice (some ⟨x, 0, none⟩) 36 cx) := by rw [hwr0]; exact HG1.out
        by_cases hjl : j < 36
        · have h1 : wr.cell? ⟨D, j, none⟩ = some (.int .u64 (M2 g j)) := by rw [hwr0]; exact HL.out j hjl
          have h2 : wr.cell? ⟨x, j, none⟩ = some (.int .u64 (M g j)) := by rw [hwr0]; exact HV1.out j hjl
          have hji : (j : Int) < 36 := by omega
          have ho := HO2.out g j
          generalize M2 g j = u at h1 ho
          generalize M g j = v at h2 ho
          clear hwr0
          by_cases huv : u = v
          · subst huv
            clear ho
            go_wp2
            go_quiet (fail)
            go_wp2
            go_roundw
            case rel => exact ⟨j + 1, _, by omega, by go_num, by rw [hwr.out]; exact World.drewN_drewN _ _ _⟩
            case measure => simp [intOf]; omega
          · obtain ⟨rfl, hgf, hj4⟩ := ho huv
            have b1 : (u != v) = true := by simp [huv]
            have b2 : ((g : Int) != a1) = false := by simp [hgf]
            have b3 : ¬ (4 : Int) ≤ (j : Int) := by omega
            have b4 : decide ((4 : Int) ≤ (j : Int)) = false := decide_eq_false b3
            clear ho huv hgf
            go_wp2
            go_quiet (fail)
            go_wp2
            go_roundw
            case rel => exact ⟨j + 1, _, by omega, by go_num, by rw [hwr.out]; exact World.drewN_drewN _ _ _⟩
            case measure => simp [intOf]; omega
        · obtain rfl : j = 36 := by omega
          have HF : Hid (Below w2.heap.size w2 wr) := by rw [hwr0]; exact (HB.out.trans (H1.out.mono HB.out.size)).trans (below_drew' _ _ _)
          clear hwr0
          go_wp2
          go_roundw
          case rel => exact ⟨g + 1, by omega, by go_num, HF.out⟩
          case measure => simp [intOf]; omega
    · obtain rfl : g = 3 := by omega
      clear hg0 hw0 hp
      go_wp2_with (first
        | (go_at_call 18; refine (awake_any _).mono ?_; rintro e8 w8 ⟨rfl, hB8⟩; have H8 : Hid (Below w.heap.size w w8) := HI.out.below.trans (hB8.mono HI.out.below.size); clear hB8)
        | fail)
      go_ret
      exact ⟨rfl, H8.out⟩

/-! ### The statement's frame -/
/-- The heap that the program's own initialisers leave meets the condition. -/
theorem door_met (os : Os) (args : Array Value) : laidMetH Tryd.prog Rows.headOneRow.laid ((World.doorLaid Tryd.prog 400 os).forCall (fun _ _ => 0) ⟨#[], args, []⟩).memory :=
  laidMetH_of_parts3 (fuel := 8) (laidMet_of_run' 8 (by kernel_rfl) (by kernel_rfl)) (by kernel_rfl) (by kernel_rfl)
set_option maxRecDepth 100000 in
theorem lifted (os : Os) (started : os.Started) (H : Type) (enc : TypeId × Value → H) :
    ReturnsInHanded {} Tryd.checked os 5 .any (fun w args => (Rows.headOneSpec.pre enc Tryd.prog Tryd.f5 [] false w args ∧ laidMetH Tryd.prog Rows.headOneRow.laid w) ∧ sizedMet enc Tryd.prog Tryd.f5 (OpenSpec.ofChange Rows.headOneSpec) false w args) (Rows.headOneSpec.post enc Tryd.prog Tryd.f5 false true false false) := by
  refine returnsInHanded_of_change_and (C := Tryd.checked) (X := fun w _ => laidMetH Tryd.prog Rows.headOneRow.laid w) (fun _ _ _ hh h => h.of_heap hh) own started (by kernel_rfl) Tryd.func5
    (ChangeSpec.witness_shaped (enc := enc) (C := Tryd.checked) (os := os) (X := fun w _ => laidMetH Tryd.prog Rows.headOneRow.laid w) false (World.doorLaid Tryd.prog 400 os) #[.slice none 0 0, .int .i64 0, .agg #[.int .i64 0, .int .i64 0, .bool false, .int .i64 0]] 8 rfl (World.shaped_of_RefB (by kernel_rfl) (by kernel_rfl)) (by kernel_rfl) (by kernel_rfl) (by kernel_rfl) (door_met os _)) ?_
  intro W base args ds gs before hval0 hW _ _ hL _
  have hval : ∀ (j : Nat) t v, Tryd.f5.params[j]? = some t → args[j]? = some v → Value.okWide Tryd.prog W .any base t v := hval0
  have hW' := hW
  obtain ⟨p, q, hA0, hV, rfl, hfz, hnd⟩ := hW
  have hA : DataW.TrodAll enc Tryd.prog W 0 (fun _ => true) true Tryd.f5.params.toList args.toList ds p := hA0
  rw [Tryd.params5] at hA hval
  obtain ⟨v0, vs0, d0, ds0, p0, q0, hargs, rfl, rfl, h0, r0⟩ := trodAll_cons hA
  obtain ⟨v1, vs1, d1, ds1, p1, q1, rfl, rfl, rfl, h1, r1⟩ := trodAll_cons r0
  obtain ⟨v2, vs2, d2, ds2, p2, q2, rfl, rfl, rfl, h2, r2⟩ := trodAll_cons r1
  obtain ⟨rfl, rfl, rfl⟩ := trodAll_nil r2
  obtain rfl : args = #[v0, v1, v2] := by cases args; simp_all
  obtain ⟨rfl, rfl⟩ := trodVars_none hV
  obtain ⟨a0, len0, cap0, rfl⟩ := okWide_slice Tryd.underlying22 (hval 0 22 v0 rfl rfl)
  have k0 := h0
  have lt0 : ∀ x ∈ p0, x.block < W.heap.size := by obtain ⟨m, hm⟩ := k0; exact DataW.trod_lt m _ _ _ hm
  have w0 : Came .u64 W.heap.size W a0 len0 ∧ len0 ≤ 9223372036854775807 := by
    obtain ⟨fuel, hf⟩ := h0
    rcases open_ints Tryd.underlying22 Tryd.underlying48 (by kernel_rfl) hf with ⟨hcs, _⟩ | ⟨x, l, c, zs, hcs, _, hl, hm, hz, _, hcell, hwz⟩
    · simp [Value.cells] at hcs
      obtain ⟨rfl, rfl, rfl⟩ := hcs
      exact came_of_row (zs := []) (.inl ⟨rfl, rfl, rfl, rfl⟩)
    · simp [Value.cells] at hcs
      obtain ⟨rfl, rfl, rfl⟩ := hcs
      exact came_of_row (.inr ⟨_, rfl, hl, hm, by simpa using hz, hcell, hwz⟩)
  obtain ⟨a1, rfl, rfl, rfl, w1⟩ := open_int Tryd.underlying3 (hval 1 3 v1 rfl rfl) h1
  have k2 := h2
  have lt2 : ∀ x ∈ p2, x.block < W.heap.size := by obtain ⟨m, hm⟩ := k2; exact DataW.trod_lt m _ _ _ hm
  obtain ⟨a2k, a2l, a2z, a2t, rfl⟩ := head_val (hval 2 33 v2 rfl rfl) h2
  clear hA0 hval0
  refine (walk a0 len0 cap0 a1 a2k a2l a2z a2t W w0.1 w0.2 w1 (of_laid hL)).mono fun e W' ⟨he, bel⟩ => ?_
  subst he
  exact ⟨_, rfl, _, _, _, [], _, [], hW', trodAll_mk1 (shut_bool Tryd.underlying4 _), (trodAll_cons_mk (Below.trod laidOut (by kernel_rfl) (of_decide_eq_true (by kernel_rfl)) k0 bel lt0) (trodAll_cons_mk (shut_int Tryd.underlying3 w1) (trodAll_cons_mk (Below.trod laidOut (by kernel_rfl) (of_decide_eq_true (by kernel_rfl)) k2 bel lt2) trodAll_mk0))), rfl, bel.frame _, fun h => by cases h⟩

theorem over : Rows.headOneRow.holds Tryd.pinned (OpenSpec.ofChange Rows.headOneSpec) :=
  OpenClaim.holds_of_wide 5 Tryd.f5 rfl rfl rfl rfl rfl rfl rfl ⟨rfl, rfl, rfl, rfl, rfl⟩ rfl rfl rfl rfl rfl (by kernel_rfl) Tryd.func5 (by kernel_rfl)
    (of_decide_eq_true (by kernel_rfl)) (by unfold Func.isWrapper; first | (rw [if_pos (by decide +kernel)]; kernel_rfl) | (rw [if_neg (by decide +kernel)]; exact ⟨rfl, rfl⟩))
    (fun os started H enc _ => lifted os started H enc)

theorem proved : Rows.HeadOneCardSaid :=
  Claim7.holds_tied_plain_at .later [] [.data] true (true, "9f2baa4341344afafe72d5f32ba4b545fe19e605ac74589830f02a71c48f995a") false
    over (fun _ h => by cases h) (by kernel_rfl) (fun _ h => by cases h) headOne_row_tie rfl ⟨rfl, rfl⟩ (by kernel_rfl) rfl
    (fun g fn hf hfn => by
      obtain rfl : g = 5 := Option.some.inj ((show Tryd.prog.funcNamed Rows.headOneRow.func = some 5 by kernel_rfl).symm.trans hf) |>.symm
      obtain rfl : fn = Tryd.f5 := (Option.some.inj (Tryd.func5.symm.trans hfn)).symm
      exact ⟨by kernel_rfl, fun j t ht => by
        rw [Tryd.params5] at ht
        have hm : t ∈ [22, 3, 33] := by simpa using Array.mem_of_getElem? ht
        have hall : ([22, 3, 33].all fun u => !Tryd.prog.wantsStandIn u) = true := by kernel_rfl
        exact (show Tryd.prog.wantsStandIn t = false by simpa using List.all_eq_true.1 hall t hm)⟩)
    (by kernel_rfl)
end Go.Proofs.YtlpnnpapeoahkaaDoor.headOne
namespace Go.Proofs.YtlpnnpapeoahkaaDoor
theorem headOne_holds : Rows.HeadOneCardSaid := headOne.proved
#print axioms headOne_holds
end Go.Proofs.YtlpnnpapeoahkaaDoor
