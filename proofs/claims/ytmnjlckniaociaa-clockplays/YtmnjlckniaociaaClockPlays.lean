/- ClockPlays returns true for every number of cores and every list of acts, and leaves its arguments as they were. No condition. -/
import Derived.Test.YtmnjlckniaociaaRows
import Derived.Test.YtmnjlckniaociaaClkX
import Derived.Deep.CutBlock
import Derived.WalkKit
import Derived.ProofKit
import Derived.OpenShut
import Derived.ShutString
import Derived.ChangeOld
import Derived.Below
namespace Go.Proofs.Ytmnjlckniaociaa.clockPlays
open Go.ChangeShapes Go.WideShapes Go.ChangeAt Go.RowKit
open Go.ChangeMaps (open_string shut_string)
set_option linter.unusedVariables false

theorem own : ownKnob Try.prog.godebug = none := by kernel_rfl
theorem laidOut : laidOutB Try.prog = true := by kernel_rfl

/-- WHAT THE WALK IS TOLD OF A SLICE OF INTEGERS THAT CAME IN: it is nil; or it leads to a row of 'cap' cells, the numbers 'zs' (the first 'len' are its elements, the rest its spare room), each fitting its kind. -/
def IsRow (k : IntKind) (w : World) (a : Option Addr) (len cap : Nat) (zs : List Int) : Prop :=
  (a = none ∧ len = 0 ∧ cap = 0 ∧ zs = []) ∨
  ∃ x, a = some x ∧ len ≤ cap ∧ cap ≤ maxLen ∧ zs.length = cap ∧ (∀ i, i < zs.length → w.cell? (x.add i) = some (.int k (zs.getD i 0))) ∧ ∀ n ∈ zs, (Lit.int k n).wf = true

set_option maxRecDepth 100000 in
set_option maxHeartbeats 2000000 in
theorem walk_bad (n : Int) (a1 a2 : Option Addr) (len1 cap1 len2 cap2 : Nat) (w : World) (hn : ¬ (1 ≤ n ∧ n ≤ 4)) :
    Calls Try.prog 3 #[.int .i64 n, .slice a1 len1 cap1, .slice a2 len2 cap2] w fun e w' => e = .returned (.bool true) ∧ Below w.heap.size w w' := by
  have HN : Hid (¬ (1 ≤ n ∧ n ≤ 4)) := hn
  clear hn
  go_enter Try.func3, Try.ntmps3
  go_wp2_with (first
    | (go_at_call 7; refine (new_bad n _ HN.out).mono ?_; rintro e w1 ⟨rfl, rfl⟩)
    | (go_at_call 8; refine (rnew_bad n _ HN.out).mono ?_; rintro e w2 ⟨rfl, rfl⟩)
    | (go_at_call 9; refine (awake_any _).mono ?_; rintro e w4 ⟨rfl, hw4⟩))
  go_ret
  exact ⟨rfl, hw4⟩
set_option maxRecDepth 100000 in
set_option maxHeartbeats 8000000 in
theorem walk_ok (N : Nat) (hN1 : 1 ≤ N) (hN : N ≤ 4) (a1 a2 : Option Addr) (len1 cap1 len2 cap2 : Nat) (w : World)
    (HC1 : Hid (Came .u8 w.heap.size w a1 len1)) (HC2 : Hid (Came .i64 w.heap.size w a2 len2)) (hl1 : len1 ≤ 9223372036854775807) (hl2 : len2 ≤ 9223372036854775807) :
    Calls Try.prog 3 #[.int .i64 N, .slice a1 len1 cap1, .slice a2 len2 cap2] w fun e w' => e = .returned (.bool true) ∧ Below w.heap.size w w' := by
  go_enter Try.func3, Try.ntmps3
  go_wp2_with (first
    | (go_at_call 7; refine (new_ok N _ hN1 hN).mono ?_; rintro e w1 ⟨rfl, hc1, hb1⟩; have HN : Hid (ClockIs w1 w.heap.size N (newS N)) := hc1; have HNB : Hid (Below w.heap.size w w1) := hb1; clear hc1 hb1)
    | (go_at_call 8; refine (rnew_ok N _ hN1 hN).mono ?_; rintro e w2 ⟨rfl, hr2, hb2⟩; have HB2 : Hid (Both w w2 N w1.heap.size (newS N)) := ⟨HN.out.below hb2 HN.out.lt, hr2, HNB.out.trans (hb2.mono HNB.out.size), HN.out.lt⟩; clear hr2 hb2))
  clear HN HNB
  go_loopw [11] (fun i wr => ∃ k : Nat, k ≤ len1 ∧ i = .int .i64 k ∧ ∃ s, Both w wr N w1.heap.size s) (fun i _ => len1 - (intOf i).toNat)
  case atStart => exact ⟨0, by omega, rfl, _, HB2.out⟩
  case round =>
    obtain ⟨k, hk, rfl, s, hI⟩ := hrel
    have HI : Hid (Both w wr N w1.heap.size s) := hI
    clear hI HB2
    by_cases hin : k < len1 ∧ k < len2 ∧ k < 200
    · obtain ⟨h1, h2, h3⟩ := hin
      obtain ⟨b1, o1, z1, rfl, c1, HZ⟩ := HC1.out.at HI.out.below h1
      obtain ⟨b2, o2, zf, rfl, l2, c2⟩ := HC2.out.at2 HI.out.below h2
      have i1 : (k : Int) < (len1 : Int) := by omega
      have i2 : (k : Int) < (len2 : Int) := by omega
      have i3 : (k : Int) < 200 := by omega
      have HL2 : Hid (b2 < w.heap.size) := l2
      have e2 : Hid (w.cell? ⟨b2, o2 + k, none⟩ = some (.int .i64 zf)) := (HI.out.below.cell (p := ⟨b2, o2 + k, none⟩) l2).symm.trans c2
      clear l2
      obtain ⟨q, hq0, hq3⟩ := rem_u8 HZ.out 3 (by omega)
      have hq' : z1.tmod 3 = 0 ∨ z1.tmod 3 = 1 ∨ z1.tmod 3 = 2 := by
        have : z1.tmod 3 = (q : Int) := hq0
        omega
      clear hq0 HZ
      go_upto_block 2 with fail
      go_cut [] from 55 to 102 (fun wc => ∃ s, Both w wc N w1.heap.size s)
      case first =>
       rcases hq' with hq | hq | hq
       ·
        go_wp2
        go_region_held3 (fun w' => w'.cell? ⟨b2, o2 + k, none⟩ = some (.int .i64 zf)) (first | assumption | go_keep)
        (first
          | (go_at_call 10; refine (step_any _ N _ s _ hN1 hN HI.out.drew.clock).mono ?_; rintro e w2 ⟨rfl, hw2⟩; have HW2 : Hid (w2 = wr.drew.setRow w.heap.size (cellsC N (stepS N s zf))) := hw2; have d2 := ((HI.out.drew.half hw2).2.cell (p := ⟨b2, o2 + k, none⟩) HL2.out).trans e2.out; clear hw2)
          | (go_at_call 11; refine (rstep_any _ _ N _ s _ hN (HI.out.drew.half HW2.out).1).mono ?_; rintro e w3 ⟨rfl, hr3, hb3⟩; have H3' : Hid (Both w w3 N w1.heap.size (stepS N s zf)) := HI.out.drew.turn (ok_step HI.out.clock.ok N zf) HW2.out hr3 hb3; clear hr3 hb3 d2; have d2 := (H3'.out.below.cell (p := ⟨b2, o2 + k, none⟩) HL2.out).trans e2.out))
        go_wp2_with fail
        go_meet
        exact ⟨_, H3'.out⟩
       ·
        go_wp2
        go_region_held3 (fun w' => w'.cell? ⟨b2, o2 + k, none⟩ = some (.int .i64 zf)) (first | assumption | go_keep)
        (first
          | (go_at_call 12; refine (enter_any _ N _ s _ hN1 hN HI.out.drew.clock).mono ?_; rintro e w2 ⟨rfl, hw2⟩; have HW2 : Hid (w2 = wr.drew.setRow w.heap.size (cellsC N (enterS N s zf))) := hw2; have d2 := ((HI.out.drew.half hw2).2.cell (p := ⟨b2, o2 + k, none⟩) HL2.out).trans e2.out; clear hw2)
          | (go_at_call 13; refine (renter_any _ _ N _ s _ hN (HI.out.drew.half HW2.out).1).mono ?_; rintro e w3 ⟨rfl, hr3, hb3⟩; have H3' : Hid (Both w w3 N w1.heap.size (enterS N s zf)) := HI.out.drew.turn (ok_enter HI.out.clock.ok N zf) HW2.out hr3 hb3; clear hr3 hb3 d2; have d2 := (H3'.out.below.cell (p := ⟨b2, o2 + k, none⟩) HL2.out).trans e2.out))
        go_wp2_with fail
        go_meet
        exact ⟨_, H3'.out⟩
       ·
        go_wp2
        go_region_held3 (fun w' => w'.cell? ⟨b2, o2 + k, none⟩ = some (.int .i64 zf)) (first | assumption | go_keep)
        (first
          | (go_at_call 14; refine (flush_any _ N _ s _ hN1 hN HI.out.drew.clock).mono ?_; rintro e w2 ⟨rfl, hw2⟩; have HW2 : Hid (w2 = wr.drew.setRow w.heap.size (cellsC N (flushS N s zf))) := hw2; have d2 := ((HI.out.drew.half hw2).2.cell (p := ⟨b2, o2 + k, none⟩) HL2.out).trans e2.out; clear hw2)
          | (go_at_call 15; refine (rflush_any _ _ N _ s _ hN (HI.out.drew.half HW2.out).1).mono ?_; rintro e w3 ⟨rfl, hr3, hb3⟩; have H3' : Hid (Both w w3 N w1.heap.size (flushS N s zf)) := HI.out.drew.turn (ok_flush HI.out.clock.ok N zf) HW2.out hr3 hb3; clear hr3 hb3 d2; have d2 := (H3'.out.below.cell (p := ⟨b2, o2 + k, none⟩) HL2.out).trans e2.out))
        go_wp2_with fail
        go_meet
        exact ⟨_, H3'.out⟩
      case rest =>
        obtain ⟨s2, h3⟩ := hcut
        have H3 : Hid (Both w wc N w1.heap.size s2) := h3
        clear h3 c1 c2 HI hq'
        go_wp2_with (first
          | (go_at_call 16; refine (floor_any _ N s2 _ hN1 hN H3.out.clock).mono ?_; rintro e w4 ⟨rfl, hm4⟩; have H4 : Hid (Both w w4 N w1.heap.size s2) := H3.out.more hm4; clear hm4)
          | (go_at_call 17; refine (rfloor_any _ _ N s2 _ hN1 hN H4.out.ref).mono ?_; rintro e w5 ⟨rfl, n5, hw5⟩; have H5 : Hid (Both w w5 N w1.heap.size s2) := (by rw [hw5]; exact H4.out.drewN n5); clear hw5))
        clear H3 H4
        obtain ⟨r1, r2, r3, k1, k2, k3, hR5⟩ := H5.out.ref
        have R5 : Hid (RefAt w5 w1.heap.size w1.heap.size N s2 r1 r2 r3 k1 k2 k3) := hR5
        have a0 := hR5.c0
        have a1 := hR5.c1
        clear hR5
        go_quiet (first
          | (go_at_call 18; exact Calls.quiet_of_same (now_some _ _ _ (H5.out.drewN _).clock.now))
          | (go_at_call 19; exact Calls.quiet_of_same (cores_some _ N _ (H5.out.drewN _).clock.cell)))
        have G6 := H5.out.drewN nq
        have Q6 := R5.out.more (more_drewN _ nq)
        generalize w5.drewN nq = w6 at G6 Q6 ⊢
        have H6 : Hid (Both w w6 N w1.heap.size s2) := G6
        have R6 : Hid (RefAt w6 w1.heap.size w1.heap.size N s2 r1 r2 r3 k1 k2 k3) := Q6
        have d2 := (G6.below.cell (p := ⟨b2, o2 + k, none⟩) HL2.out).trans e2.out
        have a1 := Q6.c1
        clear a0 G6 Q6 H5 R5
        cases hk : okF N zf
        · have y1 : cyS N s2 zf = 0 := by simp [cyS, hk]
          have y2 : enS N s2 zf = -1 := by simp [enS, hk]
          have y3 : flS N s2 zf = -1 := by simp [flS, hk]
          go_wp2
          go_quiet ((go_at_call 20; exact Calls.quiet_of_same (is_no _ r1 k1 N _ _ (okF_no hk) hN (R6.out.more (more_drewN _ _)).c1)))
          have G7 := H6.out.drewN nq
          have Q7 := R6.out.more (more_drewN _ nq)
          generalize w6.drewN nq = w7 at G7 Q7 ⊢
          have H7 : Hid (Both w w7 N w1.heap.size s2) := G7
          clear d2 a1
          have d2 := (G7.below.cell (p := ⟨b2, o2 + k, none⟩) HL2.out).trans e2.out
          have a1 := Q7.c1
          clear G7 Q7 H6 R6
          go_wp2_with (first
            | (go_at_call 20; refine (is_no _ r1 k1 N _ _ (okF_no hk) hN a1).mono ?_; rintro e w8 ⟨rfl, hw8⟩; subst w8)
            | (go_at_call 21; refine (cycles_any _ N _ s2 _ hN1 hN H7.out.clock).mono ?_; rintro e w8 ⟨rfl, hm⟩; rw [y1]; have H8 : Hid (Both w w8 N w1.heap.size s2) := H7.out.more hm; clear hm d2 a1; have d2 := (H8.out.below.cell (p := ⟨b2, o2 + k, none⟩) HL2.out).trans e2.out)
            | (go_at_call 22; refine (entered_any _ N _ s2 _ hN1 hN H8.out.clock).mono ?_; rintro e w9 ⟨rfl, hm⟩; rw [y2]; have H9 : Hid (Both w w9 N w1.heap.size s2) := H8.out.more hm; clear hm d2; have d2 := (H9.out.below.cell (p := ⟨b2, o2 + k, none⟩) HL2.out).trans e2.out)
            | (go_at_call 23; refine (flushed_any _ N _ s2 _ hN1 hN H9.out.clock).mono ?_; rintro e w10 ⟨rfl, hm⟩; rw [y3]; have H10 : Hid (Both w w10 N w1.heap.size s2) := H9.out.more hm; clear hm d2))
          go_roundw
          case rel => exact ⟨k + 1, by omega, by go_num, _, H10.out⟩
          case measure => simp [intOf]; omega
        · obtain ⟨c, rfl, hc⟩ := okF_split hk
          have hci : (c : Int) < (N : Int) := by omega
          clear d2 a1
          go_wp2
          refine region23 N k c w1.heap.size b2 o2 len2 cap2 r1 r2 r3 k1 k2 k3 s2 w w6 _ _ _ _ _ _ _ _ _ _ _ _ _ _ _ _ _ _ _ _ _ _ _ _ _ _ _ _ _ _ _ _ _ _ _ _ _ _ _ _ _ _ _ _ _ _ _ _ _ _ _ _ _ _ _ _ _ _ _ _ _ _ _ _ _ _ _ _ _ _ _ _ _ _ _ _ _ _ _ _ _ _ _ _ _ _ _ _ _ _ _ _ _ _ _ _ _ _ _ _ _ _ _ _ _ _ _ _ _ _ _ _ _ _ _ _ _ _ _ _ _ _ _ _ _ _ _ _ _ _ _ _ _ _ _ _ _ _ _ _ _ _ _ _ _ _ _ _ _ _ _ _ _ _ _ _ _ _ _ _ _ _ _ _ _ _ _ _ _ _ _ _ _ _ _ _ _ _ _ _ _ _ _ _ _ _ _ _ _ _ _ _ _ _ _ _ _ _ _ _ _ _ _ _ _ _ _ _ _ _ _ _ _ _ _ _ _ _ _ _ _ _ _ _ _ _ _ _ _ _ _ _ _ _ _ hN1 hN hc i2 hl2 H6 R6 HL2 e2 ?_
          unfold Hid
          intro v140 v141 v142 v143 v144 v145 v146 v147 v148 v149 v150 v151 v152 v153 v154 v155 v156 v157 v158 v159 v160 v161 v162 v163 v164 v165 v166 v167 v168 v169 v170 v171 v172 v173 v174 v175 v176 v177 v178 v179 v180 v181 v182 v183 v184 v185 v186 v187 v188 v189 v190 v191 v192 v193 v194 v195 v196 v197 v198 v199 v200 v201 w9 h9
          have H9 : Hid (Both w w9 N w1.heap.size s2) := h9
          have d9 := (h9.below.cell (p := ⟨b2, o2 + k, none⟩) HL2.out).trans e2.out
          obtain ⟨s1, s3, s4, j1, j2, j3, hR9⟩ := h9.ref
          have a9 := hR9.c1
          clear h9 hR9
          go_wp2_with (go_at_call 20; refine (is_yes _ s1 j1 N c _ hc hN a9).mono ?_; rintro e w10 ⟨rfl, hw10⟩; subst w10)
          go_roundw
          case rel => exact ⟨k + 1, by omega, by go_num, _, H9.out⟩
          case measure => simp [intOf]; omega
    · have hout : ¬ k < len1 ∨ (k < len1 ∧ ¬ k < len2) ∨ (k < len1 ∧ k < len2 ∧ ¬ k < 200) := by omega
      clear hin
      rcases hout with h1 | ⟨h1, h2⟩ | ⟨h1, h2, h3⟩
      all_goals
        go_wp2_with (go_at_call 9; refine (awake_any _).mono ?_; rintro e w9 ⟨rfl, hw9⟩)
        go_ret
        exact ⟨rfl, HI.out.below.trans (hw9.mono HI.out.below.size)⟩

/-! ### STEP 1: THE WALK: the Go text returns true, AND WRITES NOTHING THAT WAS THERE: 'Below w.heap.size w w'' (Derived/Below.lean: '.refl', '.alloc', '.drew', '.setCell' at a new block, '.trans'). Open each 'IsRow' by 'rcases' AHEAD of 'go_enter'; part every test ahead of the walk. -/
theorem walk (a0 : Int) (a1 : Option Addr) (len1 cap1 : Nat) (z1 : List Int) (a2 : Option Addr) (len2 cap2 : Nat) (z2 : List Int) (w : World) (w0 : (Lit.int .i64 a0).wf = true) (w1 : IsRow .u8 w a1 len1 cap1 z1) (w2 : IsRow .i64 w a2 len2 cap2 z2) :
    Calls Try.prog 3 #[.int .i64 a0, .slice a1 len1 cap1, .slice a2 len2 cap2] w fun e w' => e = .returned (.bool true) ∧ Below w.heap.size w w' := by
  obtain ⟨hC1, hl1⟩ := came_of_row w1
  obtain ⟨hC2, hl2⟩ := came_of_row w2
  by_cases hn : 1 ≤ a0 ∧ a0 ≤ 4
  · obtain ⟨N, rfl⟩ := Int.eq_ofNat_of_zero_le (show 0 ≤ a0 by omega)
    exact walk_ok N (by omega) (by omega) a1 a2 len1 cap1 len2 cap2 w hC1 hC2 hl1 hl2
  · exact walk_bad a0 a1 a2 len1 cap1 len2 cap2 w hn

/-! ### THE ROW's STEP: WRITTEN OUT: LEAVE IT -/
set_option maxRecDepth 100000 in
theorem lifted (os : Os) (started : os.Started) (H : Type) (enc : TypeId × Value → H) :
    ReturnsInHanded {} Try.checked os 3 .any (Rows.clockPlaysSpec.pre6 enc Try.prog Try.f3 Rows.clockPlaysRow.domain false) (Rows.clockPlaysSpec.post enc Try.prog Try.f3 false true false false) := by
  refine returnsInHanded_of_change (C := Try.checked) own started (by kernel_rfl) Try.func3
    (ChangeSpec.witness6 (enc := enc) (C := Try.checked) false ⟨#[], #[.int .i64 0, .slice none 0 0, .slice none 0 0], []⟩ 8 (by kernel_rfl) (by kernel_rfl) (by kernel_rfl) (by kernel_rfl)) ?_
  intro W base args ds gs before hval0 hW hcnd _
  have hval : ∀ (j : Nat) t v, Try.f3.params[j]? = some t → args[j]? = some v → Value.okWide Try.prog W .any base t v := hval0
  have hW' := hW
  obtain ⟨p, q, hA0, hV, rfl, hfz, hnd⟩ := hW
  have hA : DataW.TrodAll enc Try.prog W 0 (fun _ => true) true Try.f3.params.toList args.toList ds p := hA0
  rw [Try.params3] at hA hval
  obtain ⟨v0, vs0, d0, ds0, p0, q0, hargs, rfl, rfl, h0, r0⟩ := trodAll_cons hA
  obtain ⟨v1, vs1, d1, ds1, p1, q1, rfl, rfl, rfl, h1, r1⟩ := trodAll_cons r0
  obtain ⟨v2, vs2, d2, ds2, p2, q2, rfl, rfl, rfl, h2, r2⟩ := trodAll_cons r1
  obtain ⟨rfl, rfl, rfl⟩ := trodAll_nil r2
  obtain rfl : args = #[v0, v1, v2] := by cases args; simp_all
  obtain ⟨rfl, rfl⟩ := trodVars_none hV
  obtain ⟨a0, rfl, rfl, rfl, w0⟩ := open_int Try.underlying3 (hval 0 3 v0 rfl rfl) h0
  obtain ⟨a1, len1, cap1, rfl⟩ := okWide_slice Try.underlying22 (hval 1 22 v1 rfl rfl)
  have k1 := h1
  have lt1 : ∀ x ∈ p1, x.block < W.heap.size := by obtain ⟨m, hm⟩ := k1; exact DataW.trod_lt m _ _ _ hm
  obtain ⟨z1, w1⟩ : ∃ zs, IsRow .u8 W a1 len1 cap1 zs := by
    obtain ⟨fuel, hf⟩ := h1
    rcases open_ints Try.underlying22 Try.underlying5 (by kernel_rfl) hf with ⟨hcs, _⟩ | ⟨x, l, c, zs, hcs, _, hl, hm, hz, _, hcell, hwz⟩
    · simp [Value.cells] at hcs
      obtain ⟨rfl, rfl, rfl⟩ := hcs
      exact ⟨[], .inl ⟨rfl, rfl, rfl, rfl⟩⟩
    · simp [Value.cells] at hcs
      obtain ⟨rfl, rfl, rfl⟩ := hcs
      exact ⟨zs, .inr ⟨_, rfl, hl, hm, by simpa using hz, hcell, hwz⟩⟩
  obtain ⟨a2, len2, cap2, rfl⟩ := okWide_slice Try.underlying23 (hval 2 23 v2 rfl rfl)
  have k2 := h2
  have lt2 : ∀ x ∈ p2, x.block < W.heap.size := by obtain ⟨m, hm⟩ := k2; exact DataW.trod_lt m _ _ _ hm
  obtain ⟨z2, w2⟩ : ∃ zs, IsRow .i64 W a2 len2 cap2 zs := by
    obtain ⟨fuel, hf⟩ := h2
    rcases open_ints Try.underlying23 Try.underlying3 (by kernel_rfl) hf with ⟨hcs, _⟩ | ⟨x, l, c, zs, hcs, _, hl, hm, hz, _, hcell, hwz⟩
    · simp [Value.cells] at hcs
      obtain ⟨rfl, rfl, rfl⟩ := hcs
      exact ⟨[], .inl ⟨rfl, rfl, rfl, rfl⟩⟩
    · simp [Value.cells] at hcs
      obtain ⟨rfl, rfl, rfl⟩ := hcs
      exact ⟨zs, .inr ⟨_, rfl, hl, hm, by simpa using hz, hcell, hwz⟩⟩
  clear hA0 hval0
  refine (walk a0 a1 len1 cap1 z1 a2 len2 cap2 z2 W w0 w1 w2).mono fun e W' ⟨he, bel⟩ => ?_
  subst he
  exact ⟨_, rfl, _, _, _, [], _, [], hW', trodAll_mk1 (shut_bool Try.underlying4 _), (trodAll_cons_mk (shut_int Try.underlying3 w0) (trodAll_cons_mk (Below.trod laidOut (by kernel_rfl) (of_decide_eq_true (by kernel_rfl)) k1 bel lt1) (trodAll_cons_mk (Below.trod laidOut (by kernel_rfl) (of_decide_eq_true (by kernel_rfl)) k2 bel lt2) trodAll_mk0))), rfl, bel.frame _, fun h => by cases h⟩

theorem over : Rows.clockPlaysRow.holds Try.pinned (OpenSpec.ofChange Rows.clockPlaysSpec) :=
  OpenClaim.holds_of_wide 3 Try.f3 rfl rfl rfl rfl rfl rfl rfl ⟨rfl, rfl, rfl, rfl, rfl⟩ rfl rfl rfl rfl rfl (by kernel_rfl) Try.func3 (by kernel_rfl)
    (of_decide_eq_true (by kernel_rfl)) (by unfold Func.isWrapper; first | (rw [if_pos (by decide +kernel)]; kernel_rfl) | (rw [if_neg (by decide +kernel)]; exact ⟨rfl, rfl⟩))
    (fun os started H enc _ => lifted os started H enc)

/-- ████ THE STATEMENT ████ -/
theorem proved : Rows.ClockPlaysSaid := over
end Go.Proofs.Ytmnjlckniaociaa.clockPlays
namespace Go.Proofs.Ytmnjlckniaociaa
theorem clockPlays_holds : Rows.ClockPlaysSaid := clockPlays.proved
#print axioms clockPlays_holds
end Go.Proofs.Ytmnjlckniaociaa
