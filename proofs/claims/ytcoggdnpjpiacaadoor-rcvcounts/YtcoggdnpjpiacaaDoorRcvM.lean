/- The walk of RcvCounts, over the program's contracts. -/
import Derived.Test.YtcoggdnpjpiacaaDoorRcvL
import Derived.Test.YtcoggdnpjpiacaaDoorRcvF
import Derived.Deep.RegionHeld3
import Derived.BigRegion
namespace Go.Proofs.YtcoggdnpjpiacaaDoor.Prcv
open Go.Proofs.YtcoggdnpjpiacaaDoor.Pbase Go.Proofs.YtcoggdnpjpiacaaDoor.Pfield Go.Proofs.YtcoggdnpjpiacaaDoor.Play Go.Proofs.YtcoggdnpjpiacaaDoor.Pmem Go.Proofs.YtcoggdnpjpiacaaDoor.Pring
open Go.RowKit M
set_option linter.unusedVariables false

set_option maxRecDepth 100000 in
set_option maxHeartbeats 8000000 in
theorem counts_yes (n k : Int) (hn : 0 ≤ n) (hk : 0 ≤ k) (e : Ev) (hf : Fe e) (he : Eo e) (w : World) (hT : Ts w) (HP : ∀ w1, Below w.heap.size w w1 → Prd 1 w1) :
    Calls Tryd.prog 3 #[.int .u16 n, .int .u16 k, .agg #[.int .i64 e.k, .int .i64 e.t]] w fun x w' => x = .returned (.bool true) ∧ Below w.heap.size w w' := by
  have H0 := rhide (cs_new hT HP e)
  obtain ⟨a, ha, ha3⟩ := rem300 hn
  obtain ⟨b, hb, hb3⟩ := rem300 hk
  have wa : IntKind.i64.wrap (a : Int) = a := wrapi_small (by omega) (by omega)
  have wb : IntKind.i64.wrap (b : Int) = b := wrapi_small (by omega) (by omega)
  clear hT HP hn hk
  go_enter Tryd.func3, Tryd.ntmps3
  go_upto_region 1 with fail
  generalize w.alloc _ = w1 at H0 ⊢
  have HM : Hid (Calls Tryd.prog 6 #[.pointer (some ⟨w1.heap.size + 1, 0, none⟩), .int .i64 0, .agg #[.int .i64 0, .int .i64 0, .int .i64 0, .bool false, .int .i64 0]] (newW w1 1) fun e w' => e = .returned (.int .i64 0) ∧ Ek w1 w' rv0 []) := ek_make (r := rv0) H0.out.pr (by unfold Vo rv0; simp)
  have HTl : Hid (∀ j wc, Ek w1 wc (toldX j) (toldL e j) → Calls Tryd.prog 7 #[.pointer (some ⟨w1.heap.size + 1, 0, none⟩), .int .i64 0, .agg #[.int .i64 e.k, .int .i64 e.t]] wc fun x w' => x = .returned (.int .i64 0) ∧ Ek w1 w' (toldX (j + 1)) (toldL e (j + 1))) := fun j wc h => ek_told H0.out.pr h hf he
  have HC : Hid (∀ wc, Calls Tryd.prog 8 #[.agg #[.int .i64 e.k, .int .i64 e.t]] wc fun x w' => x = .returned (.int .i64 0) ∧ Below wc.heap.size wc w') := fun wc => by
    have := Pring.check_any e wc
    rwa [Pring.ck_yes he] at this
  clear hf he
  go_wp2_with (first
    | (go_at_call 5; refine (new_ok 1 _ (by omega) (by omega)).mono ?_; rintro r1 w2 ⟨rfl, hw⟩; rw [← hw] at HM; clear hw)
    | (go_at_call 6; refine HM.out.mono ?_; rintro r2 w3 ⟨rfl, hw⟩; have H3 := rhide hw; clear hw HM)
    | fail)
  go_loopw [11] (fun i wr => ∃ j : Nat, j ≤ a ∧ i = .int .i64 j ∧ Ek w1 wr (toldX j) (toldL e j)) (fun i _ => a - (intOf i).toNat)
  case atStart => exact ⟨0, by omega, rfl, H3.out⟩
  case round =>
    obtain ⟨j, hj, rfl, hI⟩ := hrel
    have HI := rhide hI
    have g0 := (H0.out.box.on hI.below).c0
    have g1 := (H0.out.box.on hI.below).c1
    clear hI H3
    by_cases hja : j < a
    · have i1 : (j : Int) < (a : Int) := by omega
      go_upto_region 9 with fail
      go_region_held3 (fun w' => w'.cell? ⟨w.heap.size, 0, none⟩ = some (.int .i64 e.k) ∧ w'.cell? ⟨w.heap.size, 1, none⟩ = some (.int .i64 e.t)) (first | (refine ⟨?_, ?_⟩ <;> with_reducible assumption) | go_keep)
      (first
        | (go_at_call 7; refine (HTl.out _ _ (by first | exact HI.out | exact HI.out.on (Below.refl _ _).drew)).mono ?_; rintro x3 w4 ⟨rfl, hw⟩; have H4 := rhide hw; clear hw HI HTl g0 g1; have g0 := (H0.out.box.on H4.out.below).c0; have g1 := (H0.out.box.on H4.out.below).c1)
        | (go_at_call 8; refine (HC.out _).mono ?_; rintro x4 w5 ⟨rfl, hw⟩; have H5 := rhide (H4.out.on (by first | exact hw | exact (Below.refl _ _).drew.trans hw)); clear hw H4 HC g0 g1; have g0 := (H0.out.box.on H5.out.below).c0; have g1 := (H0.out.box.on H5.out.below).c1)
        | fail)
      go_wp2
      go_roundw
      case rel => first | exact ⟨j + 1, by omega, by go_num, H5.out⟩ | exact ⟨j + 1, by omega, by go_num, H5.out.on (Below.refl _ _).drew⟩
      case measure => simp [intOf]; omega
    · have i1 : ¬ (j : Int) < (a : Int) := by omega
      obtain rfl : j = a := by omega
      have hlen := toldL_len e j
      generalize toldL e j = L at HI hlen
      have HG : Hid (∀ wc, Ek w1 wc (toldX j) L → Calls Tryd.prog 10 #[.pointer (some ⟨w1.heap.size + 1, 0, none⟩), .int .i64 0] wc fun x w' => x = .returned (.tuple #[.agg #[.int .i64 0, .int .i64 0, .int .i64 0, .bool false, .int .i64 ((min (j - 8) 255 : Nat) : Int)], .int .i64 0]) ∧ Below wc.heap.size wc w') := fun wc h => ek_get H0.out.pr h
      have HA : Hid (∀ wc, Ek w1 wc (toldX j) L → Calls Tryd.prog 9 #[.pointer (some ⟨w1.heap.size + 1, 0, none⟩), .int .i64 0] wc fun x w' => ∃ a cap, x = .returned (.tuple #[.slice a (min j 8) cap, .int .i64 0]) ∧ Below wc.heap.size wc w') := fun wc h => by
        have := ek_all H0.out.ts h
        rw [hlen] at this
        exact this.mono fun x w' ⟨q, c, q1, q2, q3⟩ => ⟨q, c, q1, q3⟩
      obtain ⟨m, hm⟩ : ∃ m, min j 8 = m := ⟨_, rfl⟩
      obtain ⟨l, hl⟩ : ∃ l, min (j - 8) 255 = l := ⟨_, rfl⟩
      rw [hm] at HA
      rw [hl] at HG
      have hR : toldX j = cntX 0 l := by unfold toldX cntX; rw [hl]; rfl
      rw [hR] at HI HG HA
      clear g0 g1 hlen HTl hR
      go_upto_region 13 with (first
        | (go_at_call 9; refine (HA.out _ HI.out).mono ?_; rintro x6 w6 ⟨a6, cap6, rfl, hw⟩; have H6 := rhide (HI.out.on hw); clear hw HI HA)
        | (go_at_call 10; refine (HG.out _ H6.out).mono ?_; rintro x7 w7 ⟨rfl, hw⟩; have H7 := rhide (H6.out.on hw); clear hw H6 HG)
        | fail)
      have K8 : Ek w1 (w7.alloc (.cells #[.int .i64 0, .int .i64 0, .int .i64 0, .bool false, .int .i64 (l : Int)] 31)) (cntX 0 l) L ∧ RowW (w7.alloc (.cells #[.int .i64 0, .int .i64 0, .int .i64 0, .bool false, .int .i64 (l : Int)] 31)) w7.heap.size (cntX 0 l) := ⟨H7.out.on (bal (Below.refl _ _) _), rowW_new w7 (cntX 0 l)⟩
      generalize w7.alloc _ = v8 at K8 ⊢
      generalize w7.heap.size = D at K8 ⊢
      have H8 := rhide K8
      clear K8 H7
      have g0 := (H0.out.box.on H8.out.1.below).c0
      have g1 := (H0.out.box.on H8.out.1.below).c1
      go_upto_region 17 with (first
        | (go_at_call 8; refine (HC.out _).mono ?_; rintro x9 w9 ⟨rfl, hw⟩; have H9 : Hid (Ek w1 w9 (cntX 0 l) L) := H8.out.1.on hw; have x4 : w9.cell? ⟨D, 4, none⟩ = some (.int .i64 (l : Int)) := (H8.out.2.on hw).c4; clear hw H8 HC g0 g1)
        | fail)
      go_wp2
      all_goals
        clear x4
        go_loopw [16] (fun i wr => ∃ c : Nat, c ≤ b ∧ i = .int .i64 c ∧ Ek w1 wr (cntX c l) L) (fun i _ => b - (intOf i).toNat)
        case atStart => exact ⟨0, by omega, rfl, H9.out⟩
        case round =>
          obtain ⟨c, hc, rfl, hI⟩ := hrel
          have HI := rhide hI
          clear hI H9
          by_cases hcb : c < b
          · have i2 : (c : Int) < (b : Int) := by omega
            go_wp2_with (first
              | (go_at_call 12; refine (ek_more H0.out.pr HI.out).mono ?_; rintro x3 w4 ⟨rfl, hw⟩; rw [cntX_more] at hw; have H4 := rhide hw; clear hw HI)
              | fail)
            go_roundw
            case rel => exact ⟨c + 1, by omega, by go_num, H4.out⟩
            case measure => simp [intOf]; omega
          · have i2 : ¬ (c : Int) < (b : Int) := by omega
            obtain rfl : c = b := by omega
            obtain ⟨t, ht⟩ : ∃ t, min c 255 = t := ⟨_, rfl⟩
            have hX : cntX c l = cntX t l := by unfold cntX; rw [show min c 255 = min t 255 by omega]
            rw [hX] at HI
            clear hX
            go_wp2
            go_loopw [19] (fun i wr => ∃ d : Nat, d ≤ t ∧ i = .int .i64 d ∧ Ek w1 wr (cntX (t - d) l) L) (fun i _ => t - (intOf i).toNat)
            case atStart => exact ⟨0, by omega, rfl, HI.out⟩
            case round =>
              obtain ⟨d, hd, rfl, hJ⟩ := hrel
              have HJ := rhide hJ
              clear hJ HI
              by_cases hdt : d < t
              · have hne : (cntX (t - d) l).co ≠ 0 := by unfold cntX; simp; omega
                have hlx : lessX (cntX (t - d) l) = cntX (t - (d + 1)) l := by
                  rw [show t - d = (t - (d + 1)) + 1 by omega]
                  exact cntX_less l (by omega)
                have HL : Hid (∀ wc, Ek w1 wc (cntX (t - d) l) L → Calls Tryd.prog 13 #[.pointer (some ⟨w1.heap.size + 1, 0, none⟩), .int .i64 0] wc fun x w' => x = .returned (.tuple #[.bool true, .int .i64 0]) ∧ Ek w1 w' (cntX (t - (d + 1)) l) L) := fun wc h => by
                  have := ek_less H0.out.pr h hne
                  rwa [hlx] at this
                clear hne hlx
                by_cases h5 : 255 < c
                · have i3 : (255 : Int) < (c : Int) := by omega
                  have i4 : (d : Int) < 255 := by omega
                  go_wp2_with (first
                    | (go_at_call 13; refine (HL.out _ HJ.out).mono ?_; rintro x3 w4 ⟨rfl, hw⟩; have H4 := rhide hw; clear hw HJ HL)
                    | fail)
                  go_roundw
                  case rel => exact ⟨d + 1, by omega, by go_num, H4.out⟩
                  case measure => simp [intOf]; omega
                · have i3 : ¬ (255 : Int) < (c : Int) := by omega
                  have i4 : (d : Int) < (c : Int) := by omega
                  go_wp2_with (first
                    | (go_at_call 13; refine (HL.out _ HJ.out).mono ?_; rintro x3 w4 ⟨rfl, hw⟩; have H4 := rhide hw; clear hw HJ HL)
                    | fail)
                  go_roundw
                  case rel => exact ⟨d + 1, by omega, by go_num, H4.out⟩
                  case measure => simp [intOf]; omega
              · have h0 : (cntX (t - d) l).co = 0 := by unfold cntX; simp; omega
                have HL : Hid (∀ wc, Ek w1 wc (cntX (t - d) l) L → Calls Tryd.prog 13 #[.pointer (some ⟨w1.heap.size + 1, 0, none⟩), .int .i64 0] wc fun x w' => x = .returned (.tuple #[.bool false, .int .i64 0]) ∧ Ek w1 w' (cntX (t - d) l) L) := fun wc h => ek_none H0.out.pr h h0
                clear h0
                by_cases h5 : 255 < c
                · have i3 : (255 : Int) < (c : Int) := by omega
                  have i4 : ¬ (d : Int) < 255 := by omega
                  go_wp2_with (first
                    | (go_at_call 13; refine (HL.out _ HJ.out).mono ?_; rintro x3 w4 ⟨rfl, hw⟩; have H4 := rhide hw; clear hw HJ HL)
                    | (go_at_call 11; refine (H0.out.pr.awake _ H4.out.below).mono ?_; rintro xA wA ⟨rfl, hw⟩; have HZ := rhide (H0.out.end H4.out hw); clear hw)
                    | fail)
                  go_ret
                  exact ⟨rfl, HZ.out⟩
                · have i3 : ¬ (255 : Int) < (c : Int) := by omega
                  have i4 : ¬ (d : Int) < (c : Int) := by omega
                  go_wp2_with (first
                    | (go_at_call 13; refine (HL.out _ HJ.out).mono ?_; rintro x3 w4 ⟨rfl, hw⟩; have H4 := rhide hw; clear hw HJ HL)
                    | (go_at_call 11; refine (H0.out.pr.awake _ H4.out.below).mono ?_; rintro xA wA ⟨rfl, hw⟩; have HZ := rhide (H0.out.end H4.out hw); clear hw)
                    | fail)
                  go_ret
                  exact ⟨rfl, HZ.out⟩
theorem counts_walk (n k : Int) (hn : 0 ≤ n) (hk : 0 ≤ k) (e : Ev) (hf : Fe e) (w : World) (hT : Ts w) (HP : ∀ w1, Below w.heap.size w w1 → Prd 1 w1) :
    Calls Tryd.prog 3 #[.int .u16 n, .int .u16 k, .agg #[.int .i64 e.k, .int .i64 e.t]] w fun x w' => x = .returned (.bool true) ∧ Below w.heap.size w w' := by
  by_cases he : Eo e
  · exact counts_yes n k hn hk e hf he w hT HP
  · exact counts_no n k hn hk e hf he w hT HP
end Go.Proofs.YtcoggdnpjpiacaaDoor.Prcv
