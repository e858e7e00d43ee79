/- TlbOldest returns true for every room, every number of keys and every mapping, and leaves its arguments as they were. No condition. -/
import Derived.Test.YtamfdnkjfmfcoaaRows
import Derived.Test.YtamfdnkjfmfcoaaTlbJ
import Derived.Test.YtamfdnkjfmfcoaaTlbI
import Derived.WalkKit
import Derived.ProofKit
import Derived.OpenShut
import Derived.ShutString
import Derived.ChangeOld
import Derived.Below
namespace Go.Proofs.Ytamfdnkjfmfcoaa.tlbOldest
open Go.ChangeShapes Go.WideShapes Go.ChangeAt Go.RowKit
set_option linter.unusedVariables false

theorem own : ownKnob Try.prog.godebug = none := by kernel_rfl
theorem laidOut : laidOutB Try.prog = true := by kernel_rfl

set_option maxRecDepth 100000 in
set_option maxHeartbeats 8000000 in
theorem walk_all (a0 a1 : Int) (R m : Nat) (hR : a0.tmod 9 = R) (hR9 : R < 9) (hm : a1.tmod 30 = m) (hm30 : m < 30) (q0 : Bool) (q1 q2 q3 : Int) (w : World) :
    Calls Try.prog 6 #[.int .u8 a0, .int .u8 a1, .agg #[.bool q0, .int .i64 q1, .int .i64 q2, .int .i64 q3]] w fun e w' => e = .returned (.bool true) ∧ Below w.heap.size w w' := by
  have hRi : (R : Int) < 9 := by omega
  have hmi : (m : Int) < 30 := by omega
  go_enter Try.func6, Try.ntmps6
  go_wp2_with (go_at_call 7; refine (new_ok (R : Int) _ (by omega) (by omega)).mono ?_; rintro e w1 ⟨rfl, ht1, hb1⟩; have ht2 : TlbIs w1 (w.heap.size + 1 + 1) (w.heap.size + 1) R [] := (by simpa using ht1); have HT1 : Hid (TlbIs w1 (w.heap.size + 1 + 1) (w.heap.size + 1) R []) := ht2; clear ht2; have HP1 : Hid (PteAt w1 w.heap.size q0 q1 q2 q3) := (PteAt.new w q0 q1 q2 q3 38).more hb1; have HB1 : Hid (Below w.heap.size w w1) := belowt (bal (Below.refl _ _) _) hb1; clear ht1 hb1)
  go_loopw [11] (fun i wr => ∃ j : Nat, j ≤ m ∧ i = .int .i64 j ∧ ∃ S, TlbIs wr (w.heap.size + 1 + 1) (w.heap.size + 1) R S ∧ Fine S R j ∧ S.map (·.1) = lastK R j ∧ PteAt wr w.heap.size q0 q1 q2 q3 ∧ Below w.heap.size w wr) (fun i _ => m - (intOf i).toNat)
  case atStart => exact ⟨0, by omega, rfl, [], HT1.out, fine_nil R, by simp [lastK], HP1.out, HB1.out⟩
  case round =>
    obtain ⟨j, hj, rfl, S, hT, hF, hK, hP, hB⟩ := hrel
    have HT : Hid (TlbIs wr (w.heap.size + 1 + 1) (w.heap.size + 1) R S) := hT
    have HF : Hid (Fine S R j) := hF
    have HK : Hid (S.map (·.1) = lastK R j) := hK
    have HB : Hid (Below w.heap.size w wr) := hB
    have HP : Hid (PteAt wr w.heap.size q0 q1 q2 q3) := hP
    clear hT hF hK hB hP HT1 HP1 HB1
    by_cases hlt : j < m
    · have hji : (j : Int) < (m : Int) := by omega
      have p0 := HP.out.c0
      have p1 := HP.out.c1
      have p2 := HP.out.c2
      have p3 := HP.out.c3
      go_wp2_with (go_at_call 12; refine (put_some' _ _ R S (0, (j : Int)) (q0, q1, q2, q3) _ HT.out HF.out.ok (HF.out.mx (by omega)) HF.out.len (by omega)).mono ?_; rintro e w2 ⟨rfl, ht2, hb2⟩; have HT2 : Hid (TlbIs w2 (w.heap.size + 1 + 1) (w.heap.size + 1) R (putS R S (0, (j : Int)) (q0, q1, q2, q3))) := ht2; have HB2 : Hid (Below w.heap.size w w2) := HB.out.trans (hb2.below (by omega) HB.out.size); have HP2 : Hid (PteAt w2 w.heap.size q0 q1 q2 q3) := HP.out.on (hb2.block _ (World.block_lt_of_cell? wr _ HP.out.c0) (by omega)); clear ht2 hb2)
      go_roundw
      case rel => exact ⟨j + 1, by omega, by go_num, _, HT2.out, HF.out.put _ _, putS_keys HK.out _, HP2.out, HB2.out⟩
      case measure => simp [intOf]; omega
    · obtain rfl : j = m := by omega
      have HL : Hid (S.length = min j R) := by
        have : S.length = min j R := by rw [← lastK_len R j, ← HK.out]; simp
        exact this
      go_wp2
      go_loopw [12] (fun i wi => ∃ l : Nat, l ≤ j ∧ i = .int .i64 l ∧ TlbIs wi (w.heap.size + 1 + 1) (w.heap.size + 1) R S ∧ Below w.heap.size w wi) (fun i _ => j - (intOf i).toNat)
      case atStart => exact ⟨0, by omega, rfl, HT.out, HB.out⟩
      case round =>
        obtain ⟨l, hl, rfl, hT3, hB3⟩ := hrel
        have HT3 : Hid (TlbIs wr (w.heap.size + 1 + 1) (w.heap.size + 1) R S) := hT3
        have HB3 : Hid (Below w.heap.size w wr) := hB3
        clear hT3 hB3 HT HB HP
        by_cases hlt2 : l < j
        · have hli : (l : Int) < (j : Int) := by omega
          have GET := fun wx hx => get_any (w.heap.size + 1 + 1) (w.heap.size + 1) R S (0, (l : Int)) wx hx
          have hh : hasK S (0, (l : Int)) = decide (j - l ≤ R) := by rw [hasK_keys, HK.out, decide_eq_decide]; exact lastK_mem R j l hlt2
          rw [hh] at GET
          clear hh
          generalize ptK S (0, (l : Int)) = pp at GET
          obtain ⟨u0, u1, u2, u3⟩ := pp
          simp only [pv] at GET
          by_cases hin : j - l ≤ R
          · have hd : (j : Int) - (l : Int) ≤ (R : Int) := by omega
            simp only [hin, decide_true] at GET
            go_wp2_with (go_at_call 17; refine (GET _ HT3.out).mono ?_; rintro e w4 ⟨rfl, hb4⟩; have HT4 : Hid (TlbIs w4 (w.heap.size + 1 + 1) (w.heap.size + 1) R S) := HT3.out.more hb4; have HB4 : Hid (Below w.heap.size w w4) := belowt HB3.out hb4; clear hb4)
            go_roundw
            case rel => exact ⟨l + 1, by omega, by go_num, HT4.out.alloc _, bal HB4.out _⟩
            case measure => simp [intOf]; omega
          · have hd : ¬ (j : Int) - (l : Int) ≤ (R : Int) := by omega
            simp only [hin, decide_false] at GET
            go_wp2_with (go_at_call 17; refine (GET _ HT3.out).mono ?_; rintro e w4 ⟨rfl, hb4⟩; have HT4 : Hid (TlbIs w4 (w.heap.size + 1 + 1) (w.heap.size + 1) R S) := HT3.out.more hb4; have HB4 : Hid (Below w.heap.size w w4) := belowt HB3.out hb4; clear hb4)
            go_roundw
            case rel => exact ⟨l + 1, by omega, by go_num, HT4.out.alloc _, bal HB4.out _⟩
            case measure => simp [intOf]; omega
        · obtain rfl : l = j := by omega
          clear hlt hlt2 hl hj hR hm hmi hRi
          by_cases hRm : R < l
          · have hRi' : (R : Int) < (l : Int) := by omega
            have hmin : ∀ (ty : TypeId) (w : World), (Builtin.min_ #[3, 3] ty #[.int .i64 (l : Int), .int .i64 (R : Int)]).run Try.prog w = .ok (.int .i64 (R : Int)) w := fun ty w => by rw [run_min_int2]; simp only [hRi', if_true]
            have HN : Hid (S.length = R) := by
              have := HL.out
              have : S.length = R := by omega
              exact this
            clear HL
            by_cases h0 : R = 0
            · have h0e : (((R : Nat) : Int) == 0) = true := by simp; omega
              clear h0 hRm
              go_wp2_with (first
                | (go_at_call 14; refine (keys_any _ _ R S _ HT3.out HF.out.ok (by rw [HN.out]; omega)).mono ?_; rintro e w5 ⟨g, he, hg5, hc5, hb5⟩; rw [HN.out] at he; subst he; have HB5 : Hid (Below w.heap.size w w5) := belowt HB3.out hb5; have HC5 : Hid (∀ j x, S[j]? = some x → w5.cell? ⟨g, j * 2, none⟩ = some (.int .i64 x.1.1) ∧ w5.cell? ⟨g, j * 2 + 1, none⟩ = some (.int .i64 x.1.2)) := hc5; clear hc5 hb5)
                | (go_at_call 9; refine (awake_any _).mono ?_; rintro e w6 ⟨rfl, hb6⟩; have HB6 : Hid (Below w.heap.size w w6) := belowt HB5.out hb6; clear hb6))
              go_ret
              exact ⟨rfl, HB6.out⟩
            · have h0e : (((R : Nat) : Int) == 0) = false := by simp; omega
              have h0l : (0 : Int) < ((R : Nat) : Int) := by omega
              obtain ⟨x0, hx0, hx1⟩ := lastK_first HK.out (by omega)
              have HX0 : Hid (S[0]? = some x0) := hx0
              have HX1 : Hid (x0.1.2 = (l : Int) - (R : Int)) := by rw [hx1]; exact congrArg _ (by omega)
              clear hx0 hx1 h0 hRm
              go_wp2_with (first
                | (go_at_call 14; refine (keys_any _ _ R S _ HT3.out HF.out.ok (by rw [HN.out]; omega)).mono ?_; rintro e w5 ⟨g, he, hg5, hc5, hb5⟩; rw [HN.out] at he; subst he; have HB5 : Hid (Below w.heap.size w w5) := belowt HB3.out hb5; have HC5 : Hid (∀ j x, S[j]? = some x → w5.cell? ⟨g, j * 2, none⟩ = some (.int .i64 x.1.1) ∧ w5.cell? ⟨g, j * 2 + 1, none⟩ = some (.int .i64 x.1.2)) := hc5; clear hc5 hb5; have g1 : w5.cell? ⟨g, 1, none⟩ = some (.int .i64 ((l : Int) - (R : Int))) := (by have := (HC5.out 0 x0 HX0.out).2; rw [HX1.out] at this; exact this))
                | (go_at_call 9; refine (awake_any _).mono ?_; rintro e w6 ⟨rfl, hb6⟩; have HB6 : Hid (Below w.heap.size w w6) := belowt HB5.out hb6; clear hb6))
              go_ret
              exact ⟨rfl, HB6.out⟩
          · have hRi' : ¬ (R : Int) < (l : Int) := by omega
            have hmin : ∀ (ty : TypeId) (w : World), (Builtin.min_ #[3, 3] ty #[.int .i64 (l : Int), .int .i64 (R : Int)]).run Try.prog w = .ok (.int .i64 (l : Int)) w := fun ty w => by rw [run_min_int2]; simp only [hRi', if_false]
            have HN : Hid (S.length = l) := by
              have := HL.out
              have : S.length = l := by omega
              exact this
            clear HL
            by_cases h0 : l = 0
            · have h0e : (((l : Nat) : Int) == 0) = true := by simp; omega
              clear h0 hRm
              go_wp2_with (first
                | (go_at_call 14; refine (keys_any _ _ R S _ HT3.out HF.out.ok (by rw [HN.out]; omega)).mono ?_; rintro e w5 ⟨g, he, hg5, hc5, hb5⟩; rw [HN.out] at he; subst he; have HB5 : Hid (Below w.heap.size w w5) := belowt HB3.out hb5; have HC5 : Hid (∀ j x, S[j]? = some x → w5.cell? ⟨g, j * 2, none⟩ = some (.int .i64 x.1.1) ∧ w5.cell? ⟨g, j * 2 + 1, none⟩ = some (.int .i64 x.1.2)) := hc5; clear hc5 hb5)
                | (go_at_call 9; refine (awake_any _).mono ?_; rintro e w6 ⟨rfl, hb6⟩; have HB6 : Hid (Below w.heap.size w w6) := belowt HB5.out hb6; clear hb6))
              go_ret
              exact ⟨rfl, HB6.out⟩
            · have h0e : (((l : Nat) : Int) == 0) = false := by simp; omega
              have h0l : (0 : Int) < ((l : Nat) : Int) := by omega
              obtain ⟨x0, hx0, hx1⟩ := lastK_first HK.out (by omega)
              have HX0 : Hid (S[0]? = some x0) := hx0
              have HX1 : Hid (x0.1.2 = (l : Int) - (l : Int)) := by rw [hx1]; exact congrArg _ (by omega)
              clear hx0 hx1 h0 hRm
              go_wp2_with (first
                | (go_at_call 14; refine (keys_any _ _ R S _ HT3.out HF.out.ok (by rw [HN.out]; omega)).mono ?_; rintro e w5 ⟨g, he, hg5, hc5, hb5⟩; rw [HN.out] at he; subst he; have HB5 : Hid (Below w.heap.size w w5) := belowt HB3.out hb5; have HC5 : Hid (∀ j x, S[j]? = some x → w5.cell? ⟨g, j * 2, none⟩ = some (.int .i64 x.1.1) ∧ w5.cell? ⟨g, j * 2 + 1, none⟩ = some (.int .i64 x.1.2)) := hc5; clear hc5 hb5; have g1 : w5.cell? ⟨g, 1, none⟩ = some (.int .i64 ((l : Int) - (l : Int))) := (by have := (HC5.out 0 x0 HX0.out).2; rw [HX1.out] at this; exact this))
                | (go_at_call 9; refine (awake_any _).mono ?_; rintro e w6 ⟨rfl, hb6⟩; have HB6 : Hid (Below w.heap.size w w6) := belowt HB5.out hb6; clear hb6))
              go_ret
              exact ⟨rfl, HB6.out⟩

theorem walk (a0 : Int) (a1 : Int) (a2 : Pt) (w : World) (w0 : (Lit.int .u8 a0).wf = true) (w1 : (Lit.int .u8 a1).wf = true) :
    Calls Try.prog 6 #[.int .u8 a0, .int .u8 a1, .agg #[.bool a2.1, .int .i64 a2.2.1, .int .i64 a2.2.2.1, .int .i64 a2.2.2.2]] w fun e w' => e = .returned (.bool true) ∧ Below w.heap.size w w' := by
  obtain ⟨R, hR, hR9⟩ := rem_u8 w0 9 (by omega)
  obtain ⟨m, hm, hm30⟩ := rem_u8 w1 30 (by omega)
  obtain ⟨q0, q1, q2, q3⟩ := a2
  exact walk_all a0 a1 R m hR hR9 hm hm30 q0 q1 q2 q3 w

/-! ### The statement's frame -/
set_option maxRecDepth 100000 in
theorem lifted (os : Os) (started : os.Started) (H : Type) (enc : TypeId × Value → H) :
    ReturnsInHanded {} Try.checked os 6 .any (Rows.tlbOldestSpec.pre6 enc Try.prog Try.f6 Rows.tlbOldestRow.domain false) (Rows.tlbOldestSpec.post enc Try.prog Try.f6 false true false false) := by
  refine returnsInHanded_of_change (C := Try.checked) own started (by kernel_rfl) Try.func6
    (ChangeSpec.witness6 (enc := enc) (C := Try.checked) false ⟨#[], #[.int .u8 0, .int .u8 0, .agg #[.bool false, .int .i64 0, .int .i64 0, .int .i64 0]], []⟩ 8 (by kernel_rfl) (by kernel_rfl) (by kernel_rfl) (by kernel_rfl)) ?_
  intro W base args ds gs before hval0 hW hcnd _
  have hval : ∀ (j : Nat) t v, Try.f6.params[j]? = some t → args[j]? = some v → Value.okWide Try.prog W .any base t v := hval0
  have hW' := hW
  obtain ⟨p, q, hA0, hV, rfl, hfz, hnd⟩ := hW
  have hA : DataW.TrodAll enc Try.prog W 0 (fun _ => true) true Try.f6.params.toList args.toList ds p := hA0
  rw [Try.params6] at hA hval
  obtain ⟨v0, vs0, d0, ds0, p0, q0, hargs, rfl, rfl, h0, r0⟩ := trodAll_cons hA
  obtain ⟨v1, vs1, d1, ds1, p1, q1, rfl, rfl, rfl, h1, r1⟩ := trodAll_cons r0
  obtain ⟨v2, vs2, d2, ds2, p2, q2, rfl, rfl, rfl, h2, r2⟩ := trodAll_cons r1
  obtain ⟨rfl, rfl, rfl⟩ := trodAll_nil r2
  obtain rfl : args = #[v0, v1, v2] := by cases args; simp_all
  obtain ⟨rfl, rfl⟩ := trodVars_none hV
  obtain ⟨a0, rfl, rfl, rfl, w0⟩ := open_int Try.underlying5 (hval 0 5 v0 rfl rfl) h0
  obtain ⟨a1, rfl, rfl, rfl, w1⟩ := open_int Try.underlying5 (hval 1 5 v1 rfl rfl) h1
  have k2 := h2
  have lt2 : ∀ x ∈ p2, x.block < W.heap.size := by obtain ⟨m, hm⟩ := k2; exact DataW.trod_lt m _ _ _ hm
  obtain ⟨a2, rfl⟩ := pte_val (hval 2 38 v2 rfl rfl) h2
  clear hA0 hval0
  refine (walk a0 a1 a2 W w0 w1).mono fun e W' ⟨he, bel⟩ => ?_
  subst he
  exact ⟨_, rfl, _, _, _, [], _, [], hW', trodAll_mk1 (shut_bool Try.underlying4 _), (trodAll_cons_mk (shut_int Try.underlying5 w0) (trodAll_cons_mk (shut_int Try.underlying5 w1) (trodAll_cons_mk (Below.trod laidOut (by kernel_rfl) (of_decide_eq_true (by kernel_rfl)) k2 bel lt2) trodAll_mk0))), rfl, bel.frame _, fun h => by cases h⟩

theorem over : Rows.tlbOldestRow.holds Try.pinned (OpenSpec.ofChange Rows.tlbOldestSpec) :=
  OpenClaim.holds_of_wide 6 Try.f6 rfl rfl rfl rfl rfl rfl rfl ⟨rfl, rfl, rfl, rfl, rfl⟩ rfl rfl rfl rfl rfl (by kernel_rfl) Try.func6 (by kernel_rfl)
    (of_decide_eq_true (by kernel_rfl)) (by unfold Func.isWrapper; first | (rw [if_pos (by decide +kernel)]; kernel_rfl) | (rw [if_neg (by decide +kernel)]; exact ⟨rfl, rfl⟩))
    (fun os started H enc _ => lifted os started H enc)

theorem proved : Rows.TlbOldestSaid := over
end Go.Proofs.Ytamfdnkjfmfcoaa.tlbOldest
namespace Go.Proofs.Ytamfdnkjfmfcoaa
theorem tlbOldest_holds : Rows.TlbOldestSaid := tlbOldest.proved
#print axioms tlbOldest_holds
end Go.Proofs.Ytamfdnkjfmfcoaa
