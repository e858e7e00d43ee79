/- The walk of CallNeeds, over the program's contracts (its drawn region by mk_w.py). -/
import Derived.Test.YtjibbppjdojbpaaDoorCalI
import Derived.Test.YtjibbppjdojbpaaDoorCalP
import Derived.Test.YtjibbppjdojbpaaDoorBunWalk
import Derived.Test.YtjibbppjdojbpaaDoorBunBase
import Derived.Outline
import Derived.BigRegion
import Derived.Deep.CutBlock
import Derived.Deep.QuietTactic
namespace Go.Proofs.YtjibbppjdojbpaaDoor.Pcall
open Go.Proofs.YtjibbppjdojbpaaDoor.Pbase Go.Proofs.YtjibbppjdojbpaaDoor.Pfield Go.Proofs.YtjibbppjdojbpaaDoor.Pwalk
open Go.RowKit M
set_option linter.unusedVariables false

/-- One number of a call is another. -/
def Cl.up (x : Cl) (k : Nat) (z : Int) : Cl :=
  match k with
  | 0 => ⟨x.n, z, x.b, x.c, x.d, x.e⟩
  | 1 => ⟨x.n, x.a, z, x.c, x.d, x.e⟩
  | 2 => ⟨x.n, x.a, x.b, z, x.d, x.e⟩
  | 3 => ⟨x.n, x.a, x.b, x.c, z, x.e⟩
  | 4 => ⟨x.n, x.a, x.b, x.c, x.d, z⟩
  | _ => x
theorem up_n (x : Cl) (k : Nat) (z : Int) : (x.up k z).n = x.n := by
  unfold Cl.up
  split <;> rfl
theorem up_same {x : Cl} {k : Nat} (hk : k < 5) (z : Int) : (x.up k z).v k = z := by
  rcases (show k = 0 ∨ k = 1 ∨ k = 2 ∨ k = 3 ∨ k = 4 by omega) with rfl | rfl | rfl | rfl | rfl <;> rfl
theorem up_other {x : Cl} {k j : Nat} (hk : k < 5) (hj : j < 5) (h : j ≠ k) (z : Int) : (x.up k z).v j = x.v j := by
  rcases (show k = 0 ∨ k = 1 ∨ k = 2 ∨ k = 3 ∨ k = 4 by omega) with rfl | rfl | rfl | rfl | rfl <;>
    rcases (show j = 0 ∨ j = 1 ∨ j = 2 ∨ j = 3 ∨ j = 4 by omega) with rfl | rfl | rfl | rfl | rfl <;> first | rfl | exact absurd rfl h
theorem row_up {w : World} {B : Nat} {x : Cl} (h : RowC w B x) {k : Nat} (hk : k < 5) (z : Int) : RowC (w.setCell ⟨B, 1 + k, none⟩ (.int .i64 z)) B (x.up k z) := by
  rcases (show k = 0 ∨ k = 1 ∨ k = 2 ∨ k = 3 ∨ k = 4 by omega) with rfl | rfl | rfl | rfl | rfl
  · exact h.set1 z
  · exact h.set2 z
  · exact h.set3 z
  · exact h.set4 z
  · exact h.set5 z
theorem v_cellW {w : World} {B : Nat} {x : Cl} (h : RowC w B x) {k : Nat} (hk : k < 5) : w.cell? ⟨B, 1 + k, none⟩ = some (.int .i64 (x.v k)) := by
  rcases (show k = 0 ∨ k = 1 ∨ k = 2 ∨ k = 3 ∨ k = 4 by omega) with rfl | rfl | rfl | rfl | rfl
  · exact h.c1
  · exact h.c2
  · exact h.c3
  · exact h.c4
  · exact h.c5
/-- A call filled as far as k. -/
structure Fl (N : Int) (k : Nat) (x : Cl) : Prop where
  n : x.n = N
  need : (k : Int) ≤ ndI N
  lo : ∀ j, j < 5 → j < k → 0 ≤ x.v j ∧ x.v j ≤ 255
  hi : ∀ j, j < 5 → k ≤ j → x.v j = 0
theorem fl_new (N : Int) : Fl N 0 ⟨N, 0, 0, 0, 0, 0⟩ :=
  ⟨rfl, (nd_bd N).1, fun j _ h => absurd h (by omega), fun j hj _ => by
    rcases (show j = 0 ∨ j = 1 ∨ j = 2 ∨ j = 3 ∨ j = 4 by omega) with rfl | rfl | rfl | rfl | rfl <;> rfl⟩
theorem Fl.step {N : Int} {k : Nat} {x : Cl} (h : Fl N k x) (hk : k < 5) (hn : (k : Int) < ndI N) {z : Int} (hz : 0 ≤ z ∧ z ≤ 255) : Fl N (k + 1) (x.up k z) := by
  refine ⟨(up_n _ _ _).trans h.n, by omega, fun j hj hl => ?_, fun j hj hl => ?_⟩
  · by_cases e : j = k
    · subst e; rw [up_same hk]; exact hz
    · rw [up_other hk hj e]; exact h.lo j hj (by omega)
  · rw [up_other hk hj (by omega)]; exact h.hi j hj (by omega)
theorem mx_255 {i : Nat} (h : i < 5) : 255 ≤ mxI i := by
  rcases (show i = 0 ∨ i = 1 ∨ i = 2 ∨ i = 3 ∨ i = 4 by omega) with rfl | rfl | rfl | rfl | rfl <;> simp only [mxI] <;> omega
theorem Fl.right {N : Int} {k : Nat} {x : Cl} (h : Fl N k x) (hN : 0 ≤ N ∧ N ≤ 29) : rcB x = true := by
  refine (rcB_iff x).2 ⟨by rw [h.n]; exact hN, fun i hi => (okB_iff x i).2 ?_⟩
  rw [h.n]
  have hm := mx_255 hi
  by_cases hl : i < k
  · have := h.lo i hi hl
    have := h.need
    exact ⟨⟨by omega, by omega⟩, .inl (by omega)⟩
  · have e := h.hi i hi (by omega)
    rw [e]
    exact ⟨⟨by omega, by omega⟩, .inr rfl⟩
theorem up_right {N : Int} {k m : Nat} {x : Cl} (h : Fl N k x) (hN : 0 ≤ N ∧ N ≤ 29) (hm : m < 5) : kcE (x.up m 1) = if (m : Int) < ndI N then 0 else 1 := by
  have hr := (rcB_iff x).1 (h.right hN)
  have hmx := mx_255 hm
  by_cases hl : (m : Int) < ndI N
  · rw [if_pos hl]
    refine kc_yes ((rcB_iff _).2 ⟨by rw [up_n]; exact hr.1, fun i hi => ?_⟩)
    by_cases e : i = m
    · subst e
      refine (okB_iff _ _).2 ?_
      rw [up_same hm, up_n, h.n]
      exact ⟨⟨by omega, by omega⟩, .inl hl⟩
    · have := (okB_iff x i).1 (hr.2 i hi)
      refine (okB_iff _ _).2 ?_
      rw [up_other hm hi e, up_n]
      exact this
  · rw [if_neg hl]
    refine kc_no (rcB_i hm (Bool.eq_false_iff.2 fun e => ?_))
    obtain ⟨_, h2⟩ := (okB_iff _ _).1 e
    rw [up_same hm, up_n, h.n] at h2
    omega
theorem Fl.fc {N : Int} {k : Nat} {x : Cl} (h : Fl N k x) (hN : 0 ≤ N ∧ N ≤ 29) : Fc x := by
  obtain ⟨h0, h1, h2, h3, h4, h5⟩ := rc_bd (h.right hN)
  unfold Fc I64
  omega
theorem up_fc {x : Cl} (h : Fc x) (m : Nat) : Fc (x.up m 1) := by
  unfold Fc I64 at h ⊢
  unfold Cl.up
  split <;> first | (dsimp only; omega) | omega
structure Nl (w W : World) (x : Cl) : Prop where
  box : RowC W w.heap.size x
  below : Below w.heap.size w W
theorem Nl.on {w W W' : World} {x : Cl} (h : Nl w W x) (hB : Below W.heap.size W W') : Nl w W' x := ⟨h.box.on hB, h.below.trans (hB.mono h.below.size)⟩
structure Nm (w W : World) (x y : Cl) (E : Nat) : Prop where
  nl : Nl w W x
  two : RowC W E y
  ne : w.heap.size < E
theorem Nm.on {w W W' : World} {x y : Cl} {E : Nat} (h : Nm w W x y E) (hB : Below W.heap.size W W') : Nm w W' x y E := ⟨h.nl.on hB, h.two.on hB, h.ne⟩
theorem Nm.drew {w W : World} {x y : Cl} {E : Nat} (h : Nm w W x y E) : Nm w W.drew x y E := ⟨⟨h.nl.box.drew, h.nl.below.drew⟩, h.two.drew, h.ne⟩
theorem Nm.set {w W : World} {x y : Cl} {E : Nat} (h : Nm w W x y E) {m : Nat} (hm : m < 5) (z : Int) : Nm w (W.setCell ⟨E, 1 + m, none⟩ (.int .i64 z)) x (y.up m z) E :=
  ⟨⟨h.nl.box.other (Nat.ne_of_lt h.ne) _ _, bst h.nl.below (Nat.le_of_lt h.ne) _ _⟩, row_up h.two hm z, h.ne⟩
set_option maxRecDepth 100000 in
set_option maxHeartbeats 4000000 in
theorem needs_walk (n : Int) (a1 : Option Addr) (len1 cap1 : Nat) (at0 : Int) (hn : 0 ≤ n ∧ n ≤ 255) (ha : 0 ≤ at0 ∧ at0 ≤ 255) (w : World) (D1 : Hid (Came .u8 w.heap.size w a1 len1)) (l1 : len1 ≤ 9223372036854775807) (HP : Pc w) :
    Calls Tryd.prog 5 #[.int .u8 n, .slice a1 len1 cap1, .int .u8 at0] w fun e w' => e = .returned (.bool true) ∧ Below w.heap.size w w' := by
  obtain ⟨N, hN⟩ : ∃ N, N = n % 30 := ⟨_, rfl⟩
  have e1 : n % 30 = N := hN.symm
  have e2 : n.tmod 30 = N := by rw [Int.tmod_eq_emod_of_nonneg hn.1]; exact e1
  have e3 : IntKind.i64.wrap n = n := wrapi_small (by omega) (by omega)
  have hb : 0 ≤ N ∧ N ≤ 29 := by omega
  obtain ⟨m, hm⟩ : ∃ m : Nat, (m : Int) = at0 % 5 := ⟨(at0 % 5).toNat, by omega⟩
  have f1 : at0 % 5 = m := hm.symm
  have f2 : at0.tmod 5 = m := by rw [Int.tmod_eq_emod_of_nonneg ha.1]; exact f1
  have f3 : IntKind.i64.wrap (m : Int) = m := wrapi_small (by omega) (by omega)
  have f4 : IntKind.u8.wrap (m : Int) = m := by rw [IntKind.wrap_u8]; omega
  have hm5 : m < 5 := by omega
  have a0 := ha.1
  have n0 := hn.1
  clear hN hm hn ha
  have HB := chide hb
  have PN : Hid (∀ wc, Below w.heap.size w wc → Calls Tryd.prog 14 #[.int .i64 N] wc fun e w' => e = .returned (.int .i64 (ndI N)) ∧ Below wc.heap.size wc w') := fun wc hB => HP.needs wc N hB
  have PC : Hid (∀ k x, Fl N k x → ∀ wc, Below w.heap.size w wc → Calls Tryd.prog 12 #[.agg #[.int .i64 x.n, .int .i64 x.a, .int .i64 x.b, .int .i64 x.c, .int .i64 x.d, .int .i64 x.e]] wc fun e w' => e = .returned (.int .i64 0) ∧ Below wc.heap.size wc w') := fun k x h wc hB => by
    have := HP.check wc x (h.fc HB.out) hB
    rwa [kc_yes (h.right HB.out)] at this
  have PX : Hid (∀ k x, Fl N k x → ∀ wc, Below w.heap.size w wc → Calls Tryd.prog 12 #[.agg #[.int .i64 (x.up m 1).n, .int .i64 (x.up m 1).a, .int .i64 (x.up m 1).b, .int .i64 (x.up m 1).c, .int .i64 (x.up m 1).d, .int .i64 (x.up m 1).e]] wc fun e w' => e = .returned (.int .i64 (if (m : Int) < ndI N then 0 else 1)) ∧ Below wc.heap.size wc w') := fun k x h wc hB => by
    have := HP.check wc (x.up m 1) (up_fc (h.fc HB.out) m) hB
    rwa [up_right h HB.out hm5] at this
  have PA : Hid (∀ wc, Below w.heap.size w wc → Calls Tryd.prog 18 #[] wc fun e w' => e = .returned (.bool true) ∧ Below wc.heap.size wc w') := fun wc hB => awake_any HP wc hB
  have HF := chide (fl_new N)
  have HD := chide (nd_bd N)
  have H0 : Hid (Nl w (w.alloc (.cells #[.int .i64 N, .int .i64 0, .int .i64 0, .int .i64 0, .int .i64 0, .int .i64 0] 24)) ⟨N, 0, 0, 0, 0, 0⟩) := ⟨rowC_new w ⟨N, 0, 0, 0, 0, 0⟩, bal (Below.refl _ _) _⟩
  clear HP hb
  go_enter Tryd.func5, Tryd.ntmps5
  go_upto_block 0 with fail
  generalize w.alloc _ = w1 at H0 ⊢
  clear e1 e2 e3 n0
  go_cut [8] from 15 to 39 (fun v8 wc => ∃ k x, Fl N k x ∧ Nl w wc x)
  case first =>
    go_wp2
    go_loopw [8] (fun i wr => ∃ k : Nat, k ≤ 5 ∧ i = .int .i64 k ∧ ∃ x, Fl N k x ∧ Nl w wr x) (fun i _ => 5 - (intOf i).toNat)
    case atStart => exact ⟨0, by omega, rfl, _, HF.out, H0.out⟩
    case round =>
      obtain ⟨k, hk, rfl, x, hF, hI⟩ := hrel
      have HI := chide hI
      have HL := chide hF
      clear hI hF H0 HF
      have q0 : wr.cell? ⟨w.heap.size, 0, none⟩ = some (.int .i64 N) := HI.out.box.c0.trans (by rw [HL.out.n])
      by_cases c1 : (k : Int) < ndI N
      · have HC := chide c1
        generalize ndI N = nd at PN c1
        by_cases c2 : k < 5
        · have c2' : (k : Int) < 5 := by omega
          by_cases c3 : k < len1
          · have c3' : (k : Int) < (len1 : Int) := by omega
            obtain ⟨b, off, z, rfl, hbz, hz, hw⟩ := D1.out.at3 HI.out.below c3
            have HW := chide (u8_wf hw)
            have e5 : IntKind.i64.wrap z = z := wrapi_small (by have := HW.out; omega) (by have := HW.out; omega)
            go_upto_region 5 with (first
              | (go_at_call 14; refine (PN.out _ HI.out.below).mono ?_; rintro e9 w2 ⟨rfl, hb⟩; have H1 := chide (HI.out.on hb); have hz2 : w2.cell? ⟨b, off + k, none⟩ = some (.int .u8 z) := (hb.cell (p := ⟨b, off + k, none⟩) (World.block_lt_of_cell? wr _ hz)).trans hz; clear hb HI PN q0 hz)
              | fail)
            have t := v_cellW H1.out.box c2
            have zf := H1.out.box.fz (1 + k)
            go_wp2
            go_roundw
            case rel => exact ⟨k + 1, by omega, by go_num, _, HL.out.step c2 HC.out HW.out, ⟨row_up H1.out.box c2 z, bst H1.out.below (Nat.le_refl _) _ _⟩⟩
            case measure => simp [intOf]; omega
          · have c3' : ¬ (k : Int) < (len1 : Int) := by omega
            go_wp2_with (first
              | (go_at_call 14; refine (PN.out _ HI.out.below).mono ?_; rintro e9 w2 ⟨rfl, hb⟩; have H1 := chide (HI.out.on hb); clear hb HI PN q0)
              | fail)
            go_meet
            exact ⟨k, x, HL.out, H1.out⟩
        · have c2' : ¬ (k : Int) < 5 := by omega
          go_wp2_with (first
            | (go_at_call 14; refine (PN.out _ HI.out.below).mono ?_; rintro e9 w2 ⟨rfl, hb⟩; have H1 := chide (HI.out.on hb); clear hb HI PN q0)
            | fail)
          go_meet
          exact ⟨k, x, HL.out, H1.out⟩
      · generalize ndI N = nd at PN c1
        go_wp2_with (first
          | (go_at_call 14; refine (PN.out _ HI.out.below).mono ?_; rintro e9 w2 ⟨rfl, hb⟩; have H1 := chide (HI.out.on hb); clear hb HI PN q0)
          | fail)
        go_meet
        exact ⟨k, x, HL.out, H1.out⟩
  case rest =>
    obtain ⟨k, x, hF, hI⟩ := hcut
    have HI := chide hI
    have HL := chide hF
    have PC' := chide (PC.out k x hF)
    have PX' := chide (PX.out k x hF)
    clear hI hF H0 HF PC PX D1
    have q0 := HI.out.box.c0
    have q1 := HI.out.box.c1
    have q2 := HI.out.box.c2
    have q3 := HI.out.box.c3
    have q4 := HI.out.box.c4
    have q5 := HI.out.box.c5
    go_upto_region 8 with fail
    have H1 : Hid (Nm w (wc.alloc (.cells #[.int .i64 x.n, .int .i64 x.a, .int .i64 x.b, .int .i64 x.c, .int .i64 x.d, .int .i64 x.e] 24)) x x wc.heap.size) := ⟨HI.out.on (bal (Below.refl _ _) _), rowC_new wc x, HI.out.box.lt⟩
    generalize wc.alloc _ = w3 at H1 ⊢
    generalize wc.heap.size = E at H1 ⊢
    clear HI q0 q1 q2 q3 q4 q5
    have t := v_cellW H1.out.two hm5
    have zf := H1.out.two.fz (1 + m)
    go_upto_region 9 with fail
    have H2 := chide (H1.out.set hm5 1)
    generalize w3.setCell _ _ = w4 at H2 ⊢
    clear H1 t zf
    by_cases c4 : (m : Int) < ndI N
    · rw [if_pos c4] at PX'
      generalize ndI N = nd at PN c4
      have d1 : decide ((m : Int) < nd) = true := decide_eq_true c4
      have hS0 : Nm w w4.drew x (x.up m 1) E := H2.out.drew
      refine wp_region_held_drew (S := fun W' => Nm w W' x (x.up m 1) E) (by kernel_rfl) hS0 (fun hHeld => ?_)
      clear hS0
      refine takeV (i := 0) (v := ?_) rfl (by kernel_rfl) (by kernel_rfl) (by kernel_rfl) (fun _ _ _ h => h) (by rfl) hHeld ?_ ?_
      rotate_left
      · (intro w0 hSw; (try dsimp only at hSw); have q0 := hSw.nl.box.c0; have q1 := hSw.nl.box.c1; have q2 := hSw.nl.box.c2; have q3 := hSw.nl.box.c3; have q4 := hSw.nl.box.c4; have q5 := hSw.nl.box.c5; clear hSw; go_simp; try (with_reducible rfl))
      try simp only [Act.put, List.setIfInBounds_toArray, List.set_cons_zero, List.set_cons_succ]
      refine stepOne (i := 1) rfl (by kernel_rfl) (fun K hK => ?_)
      go_simp
      (go_at_call 12; refine (PC'.out _ hHeld.nl.below).mono ?_; rintro e9 wz ⟨rfl, hb9⟩)
      go_wp2_with fail
      refine hK.out _ _ (hHeld.on hb9) (fun hHeld => ?_)
      clear hK K
      try simp only [Act.put, List.setIfInBounds_toArray, List.set_cons_zero, List.set_cons_succ]
      refine takeV (i := 2) (v := ?_) rfl (by kernel_rfl) (by kernel_rfl) (by kernel_rfl) (fun _ _ _ h => h) (by rfl) hHeld ?_ ?_
      rotate_left
      · (intro w0 hSw; (try dsimp only at hSw); clear hSw; go_simp; try (with_reducible rfl))
      try simp only [Act.put, List.setIfInBounds_toArray, List.set_cons_zero, List.set_cons_succ]
      refine takeV (i := 3) (v := ?_) rfl (by kernel_rfl) (by kernel_rfl) (by kernel_rfl) (fun _ _ _ h => h) (by rfl) hHeld ?_ ?_
      rotate_left
      · (intro w0 hSw; (try dsimp only at hSw); clear hSw; go_simp; try (with_reducible rfl))
      try simp only [Act.put, List.setIfInBounds_toArray, List.set_cons_zero, List.set_cons_succ]
      refine takeV (i := 4) (v := ?_) rfl (by kernel_rfl) (by kernel_rfl) (by kernel_rfl) (fun _ _ _ h => h) (by rfl) hHeld ?_ ?_
      rotate_left
      · (intro w0 hSw; (try dsimp only at hSw); have q0 := hSw.two.c0; have q1 := hSw.two.c1; have q2 := hSw.two.c2; have q3 := hSw.two.c3; have q4 := hSw.two.c4; have q5 := hSw.two.c5; clear hSw; go_simp; try (with_reducible rfl))
      try simp only [Act.put, List.setIfInBounds_toArray, List.set_cons_zero, List.set_cons_succ]
      refine takeV (i := 7) (v := ?_) rfl (by kernel_rfl) (by kernel_rfl) (by kernel_rfl) (fun _ _ _ h => h) (by rfl) hHeld ?_ ?_
      rotate_left
      · (intro w0 hSw; (try dsimp only at hSw); clear hSw; go_simp; try (with_reducible rfl))
      try simp only [Act.put, List.setIfInBounds_toArray, List.set_cons_zero, List.set_cons_succ]
      refine takeV (i := 8) (v := ?_) rfl (by kernel_rfl) (by kernel_rfl) (by kernel_rfl) (fun _ _ _ h => h) (by rfl) hHeld ?_ ?_
      rotate_left
      · (intro w0 hSw; (try dsimp only at hSw); clear hSw; go_simp; try (with_reducible rfl))
      try simp only [Act.put, List.setIfInBounds_toArray, List.set_cons_zero, List.set_cons_succ]
      refine takeV (i := 9) (v := ?_) rfl (by kernel_rfl) (by kernel_rfl) (by kernel_rfl) (fun _ _ _ h => h) (by rfl) hHeld ?_ ?_
      rotate_left
      · (intro w0 hSw; (try dsimp only at hSw); have q0 : w0.cell? ⟨w.heap.size, 0, none⟩ = some (.int .i64 N) := hSw.nl.box.c0.trans (by rw [HL.out.n]); clear hSw; go_simp; try (with_reducible rfl))
      try simp only [Act.put, List.setIfInBounds_toArray, List.set_cons_zero, List.set_cons_succ]
      refine stepOne (i := 5) rfl (by kernel_rfl) (fun K hK => ?_)
      go_simp
      (go_at_call 12; refine (PX'.out _ hHeld.nl.below).mono ?_; rintro e9 wz ⟨rfl, hb9⟩)
      go_wp2_with fail
      refine hK.out _ _ (hHeld.on hb9) (fun hHeld => ?_)
      clear hK K
      try simp only [Act.put, List.setIfInBounds_toArray, List.set_cons_zero, List.set_cons_succ]
      refine takeV (i := 6) (v := ?_) rfl (by kernel_rfl) (by kernel_rfl) (by kernel_rfl) (fun _ _ _ h => h) (by rfl) hHeld ?_ ?_
      rotate_left
      · (intro w0 hSw; (try dsimp only at hSw); clear hSw; go_simp; try (with_reducible rfl))
      try simp only [Act.put, List.setIfInBounds_toArray, List.set_cons_zero, List.set_cons_succ]
      refine stepOne (i := 10) rfl (by kernel_rfl) (fun K hK => ?_)
      go_simp
      (go_at_call 14; refine (PN.out _ hHeld.nl.below).mono ?_; rintro e9 wz ⟨rfl, hb9⟩)
      go_wp2_with fail
      refine hK.out _ _ (hHeld.on hb9) (fun hHeld => ?_)
      clear hK K
      try simp only [Act.put, List.setIfInBounds_toArray, List.set_cons_zero, List.set_cons_succ]
      refine takeV (i := 11) (v := ?_) rfl (by kernel_rfl) (by kernel_rfl) (by kernel_rfl) (fun _ _ _ h => h) (by rfl) hHeld ?_ ?_
      rotate_left
      · (intro w0 hSw; (try dsimp only at hSw); clear hSw; go_simp; try (with_reducible rfl))
      try simp only [Act.put, List.setIfInBounds_toArray, List.set_cons_zero, List.set_cons_succ]
      refine takeV (i := 12) (v := ?_) rfl (by kernel_rfl) (by kernel_rfl) (by kernel_rfl) (fun _ _ _ h => h) (by rfl) hHeld ?_ ?_
      rotate_left
      · (intro w0 hSw; (try dsimp only at hSw); clear hSw; go_simp; try (with_reducible rfl))
      try simp only [Act.put, List.setIfInBounds_toArray, List.set_cons_zero, List.set_cons_succ]
      refine takeV (i := 13) (v := ?_) rfl (by kernel_rfl) (by kernel_rfl) (by kernel_rfl) (fun _ _ _ h => h) (by rfl) hHeld ?_ ?_
      rotate_left
      · (intro w0 hSw; (try dsimp only at hSw); clear hSw; go_simp; try (with_reducible rfl))
      try simp only [Act.put, List.setIfInBounds_toArray, List.set_cons_zero, List.set_cons_succ]
      refine takeV (i := 14) (v := ?_) rfl (by kernel_rfl) (by kernel_rfl) (by kernel_rfl) (fun _ _ _ h => h) (by rfl) hHeld ?_ ?_
      rotate_left
      · (intro w0 hSw; (try dsimp only at hSw); clear hSw; go_simp; try (with_reducible rfl))
      try simp only [Act.put, List.setIfInBounds_toArray, List.set_cons_zero, List.set_cons_succ]
      refine stepOne (i := 15) rfl (by kernel_rfl) (fun K hK => ?_)
      go_simp
      (go_at_call 18; refine (PA.out _ hHeld.nl.below).mono ?_; rintro e9 wz ⟨rfl, hb9⟩)
      go_wp2_with fail
      refine hK.out _ _ (hHeld.on hb9) (fun hHeld => ?_)
      clear hK K
      try simp only [Act.put, List.setIfInBounds_toArray, List.set_cons_zero, List.set_cons_succ]
      refine takeV (i := 16) (v := ?_) rfl (by kernel_rfl) (by kernel_rfl) (by kernel_rfl) (fun _ _ _ h => h) (by rfl) hHeld ?_ ?_
      rotate_left
      · (intro w0 hSw; (try dsimp only at hSw); clear hSw; go_simp; try (with_reducible rfl))
      try simp only [Act.put, List.setIfInBounds_toArray, List.set_cons_zero, List.set_cons_succ]
      refine takeV (i := 17) (v := ?_) rfl (by kernel_rfl) (by kernel_rfl) (by kernel_rfl) (fun _ _ _ h => h) (by rfl) hHeld ?_ ?_
      rotate_left
      · (intro w0 hSw; (try dsimp only at hSw); clear hSw; go_simp; try (with_reducible rfl))
      try simp only [Act.put, List.setIfInBounds_toArray, List.set_cons_zero, List.set_cons_succ]
      refine wpAnyH_done (by kernel_rfl) ?_ _
      go_wp2
      go_ret
      exact ⟨rfl, hHeld.nl.below⟩
    · rw [if_neg c4] at PX'
      generalize ndI N = nd at PN c4
      have d1 : decide ((m : Int) < nd) = false := decide_eq_false c4
      have hS0 : Nm w w4.drew x (x.up m 1) E := H2.out.drew
      refine wp_region_held_drew (S := fun W' => Nm w W' x (x.up m 1) E) (by kernel_rfl) hS0 (fun hHeld => ?_)
      clear hS0
      refine takeV (i := 0) (v := ?_) rfl (by kernel_rfl) (by kernel_rfl) (by kernel_rfl) (fun _ _ _ h => h) (by rfl) hHeld ?_ ?_
      rotate_left
      · (intro w0 hSw; (try dsimp only at hSw); have q0 := hSw.nl.box.c0; have q1 := hSw.nl.box.c1; have q2 := hSw.nl.box.c2; have q3 := hSw.nl.box.c3; have q4 := hSw.nl.box.c4; have q5 := hSw.nl.box.c5; clear hSw; go_simp; try (with_reducible rfl))
      try simp only [Act.put, List.setIfInBounds_toArray, List.set_cons_zero, List.set_cons_succ]
      refine stepOne (i := 1) rfl (by kernel_rfl) (fun K hK => ?_)
      go_simp
      (go_at_call 12; refine (PC'.out _ hHeld.nl.below).mono ?_; rintro e9 wz ⟨rfl, hb9⟩)
      go_wp2_with fail
      refine hK.out _ _ (hHeld.on hb9) (fun hHeld => ?_)
      clear hK K
      try simp only [Act.put, List.setIfInBounds_toArray, List.set_cons_zero, List.set_cons_succ]
      refine takeV (i := 2) (v := ?_) rfl (by kernel_rfl) (by kernel_rfl) (by kernel_rfl) (fun _ _ _ h => h) (by rfl) hHeld ?_ ?_
      rotate_left
      · (intro w0 hSw; (try dsimp only at hSw); clear hSw; go_simp; try (with_reducible rfl))
      try simp only [Act.put, List.setIfInBounds_toArray, List.set_cons_zero, List.set_cons_succ]
      refine takeV (i := 3) (v := ?_) rfl (by kernel_rfl) (by kernel_rfl) (by kernel_rfl) (fun _ _ _ h => h) (by rfl) hHeld ?_ ?_
      rotate_left
      · (intro w0 hSw; (try dsimp only at hSw); clear hSw; go_simp; try (with_reducible rfl))
      try simp only [Act.put, List.setIfInBounds_toArray, List.set_cons_zero, List.set_cons_succ]
      refine takeV (i := 4) (v := ?_) rfl (by kernel_rfl) (by kernel_rfl) (by kernel_rfl) (fun _ _ _ h => h) (by rfl) hHeld ?_ ?_
      rotate_left
      · (intro w0 hSw; (try dsimp only at hSw); have q0 := hSw.two.c0; have q1 := hSw.two.c1; have q2 := hSw.two.c2; have q3 := hSw.two.c3; have q4 := hSw.two.c4; have q5 := hSw.two.c5; clear hSw; go_simp; try (with_reducible rfl))
      try simp only [Act.put, List.setIfInBounds_toArray, List.set_cons_zero, List.set_cons_succ]
      refine takeV (i := 7) (v := ?_) rfl (by kernel_rfl) (by kernel_rfl) (by kernel_rfl) (fun _ _ _ h => h) (by rfl) hHeld ?_ ?_
      rotate_left
      · (intro w0 hSw; (try dsimp only at hSw); clear hSw; go_simp; try (with_reducible rfl))
      try simp only [Act.put, List.setIfInBounds_toArray, List.set_cons_zero, List.set_cons_succ]
      refine takeV (i := 8) (v := ?_) rfl (by kernel_rfl) (by kernel_rfl) (by kernel_rfl) (fun _ _ _ h => h) (by rfl) hHeld ?_ ?_
      rotate_left
      · (intro w0 hSw; (try dsimp only at hSw); clear hSw; go_simp; try (with_reducible rfl))
      try simp only [Act.put, List.setIfInBounds_toArray, List.set_cons_zero, List.set_cons_succ]
      refine takeV (i := 9) (v := ?_) rfl (by kernel_rfl) (by kernel_rfl) (by kernel_rfl) (fun _ _ _ h => h) (by rfl) hHeld ?_ ?_
      rotate_left
      · (intro w0 hSw; (try dsimp only at hSw); have q0 : w0.cell? ⟨w.heap.size, 0, none⟩ = some (.int .i64 N) := hSw.nl.box.c0.trans (by rw [HL.out.n]); clear hSw; go_simp; try (with_reducible rfl))
      try simp only [Act.put, List.setIfInBounds_toArray, List.set_cons_zero, List.set_cons_succ]
      refine stepOne (i := 5) rfl (by kernel_rfl) (fun K hK => ?_)
      go_simp
      (go_at_call 12; refine (PX'.out _ hHeld.nl.below).mono ?_; rintro e9 wz ⟨rfl, hb9⟩)
      go_wp2_with fail
      refine hK.out _ _ (hHeld.on hb9) (fun hHeld => ?_)
      clear hK K
      try simp only [Act.put, List.setIfInBounds_toArray, List.set_cons_zero, List.set_cons_succ]
      refine takeV (i := 6) (v := ?_) rfl (by kernel_rfl) (by kernel_rfl) (by kernel_rfl) (fun _ _ _ h => h) (by rfl) hHeld ?_ ?_
      rotate_left
      · (intro w0 hSw; (try dsimp only at hSw); clear hSw; go_simp; try (with_reducible rfl))
      try simp only [Act.put, List.setIfInBounds_toArray, List.set_cons_zero, List.set_cons_succ]
      refine stepOne (i := 10) rfl (by kernel_rfl) (fun K hK => ?_)
      go_simp
      (go_at_call 14; refine (PN.out _ hHeld.nl.below).mono ?_; rintro e9 wz ⟨rfl, hb9⟩)
      go_wp2_with fail
      refine hK.out _ _ (hHeld.on hb9) (fun hHeld => ?_)
      clear hK K
      try simp only [Act.put, List.setIfInBounds_toArray, List.set_cons_zero, List.set_cons_succ]
      refine takeV (i := 11) (v := ?_) rfl (by kernel_rfl) (by kernel_rfl) (by kernel_rfl) (fun _ _ _ h => h) (by rfl) hHeld ?_ ?_
      rotate_left
      · (intro w0 hSw; (try dsimp only at hSw); clear hSw; go_simp; try (with_reducible rfl))
      try simp only [Act.put, List.setIfInBounds_toArray, List.set_cons_zero, List.set_cons_succ]
      refine takeV (i := 12) (v := ?_) rfl (by kernel_rfl) (by kernel_rfl) (by kernel_rfl) (fun _ _ _ h => h) (by rfl) hHeld ?_ ?_
      rotate_left
      · (intro w0 hSw; (try dsimp only at hSw); clear hSw; go_simp; try (with_reducible rfl))
      try simp only [Act.put, List.setIfInBounds_toArray, List.set_cons_zero, List.set_cons_succ]
      refine takeV (i := 13) (v := ?_) rfl (by kernel_rfl) (by kernel_rfl) (by kernel_rfl) (fun _ _ _ h => h) (by rfl) hHeld ?_ ?_
      rotate_left
      · (intro w0 hSw; (try dsimp only at hSw); clear hSw; go_simp; try (with_reducible rfl))
      try simp only [Act.put, List.setIfInBounds_toArray, List.set_cons_zero, List.set_cons_succ]
      refine takeV (i := 14) (v := ?_) rfl (by kernel_rfl) (by kernel_rfl) (by kernel_rfl) (fun _ _ _ h => h) (by rfl) hHeld ?_ ?_
      rotate_left
      · (intro w0 hSw; (try dsimp only at hSw); clear hSw; go_simp; try (with_reducible rfl))
      try simp only [Act.put, List.setIfInBounds_toArray, List.set_cons_zero, List.set_cons_succ]
      refine stepOne (i := 15) rfl (by kernel_rfl) (fun K hK => ?_)
      go_simp
      (go_at_call 18; refine (PA.out _ hHeld.nl.below).mono ?_; rintro e9 wz ⟨rfl, hb9⟩)
      go_wp2_with fail
      refine hK.out _ _ (hHeld.on hb9) (fun hHeld => ?_)
      clear hK K
      try simp only [Act.put, List.setIfInBounds_toArray, List.set_cons_zero, List.set_cons_succ]
      refine takeV (i := 16) (v := ?_) rfl (by kernel_rfl) (by kernel_rfl) (by kernel_rfl) (fun _ _ _ h => h) (by rfl) hHeld ?_ ?_
      rotate_left
      · (intro w0 hSw; (try dsimp only at hSw); clear hSw; go_simp; try (with_reducible rfl))
      try simp only [Act.put, List.setIfInBounds_toArray, List.set_cons_zero, List.set_cons_succ]
      refine takeV (i := 17) (v := ?_) rfl (by kernel_rfl) (by kernel_rfl) (by kernel_rfl) (fun _ _ _ h => h) (by rfl) hHeld ?_ ?_
      rotate_left
      · (intro w0 hSw; (try dsimp only at hSw); clear hSw; go_simp; try (with_reducible rfl))
      try simp only [Act.put, List.setIfInBounds_toArray, List.set_cons_zero, List.set_cons_succ]
      refine wpAnyH_done (by kernel_rfl) ?_ _
      go_wp2
      go_ret
      exact ⟨rfl, hHeld.nl.below⟩
end Go.Proofs.YtjibbppjdojbpaaDoor.Pcall
