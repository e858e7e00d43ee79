/- The walk of RcvCounts, over the program's contracts. -/
import Derived.Test.YtcoggdnpjpiacaaDoorRcvK
import Derived.Test.YtcoggdnpjpiacaaDoorRcvF
import Derived.Deep.RegionHeld3
import Derived.BigRegion
namespace Go.Proofs.YtcoggdnpjpiacaaDoor.Prcv
open Go.Proofs.YtcoggdnpjpiacaaDoor.Pbase Go.Proofs.YtcoggdnpjpiacaaDoor.Pfield Go.Proofs.YtcoggdnpjpiacaaDoor.Play Go.Proofs.YtcoggdnpjpiacaaDoor.Pmem Go.Proofs.YtcoggdnpjpiacaaDoor.Pring
open Go.RowKit M
set_option linter.unusedVariables false

theorem rem300 {z : Int} (h : 0 ≤ z) : ∃ r : Nat, z.tmod 300 = r ∧ r < 300 := by
  rw [Int.tmod_eq_emod_of_nonneg h]
  exact ⟨(z % 300).toNat, by omega, by omega⟩
/-- What the walk stands on, behind the event's box. -/
structure Cs (w w1 : World) (e : Ev) : Prop where
  below : Below w.heap.size w w1
  box : RowE w1 w.heap.size e
  pr : Prd 1 w1
  ts : Ts w1
theorem cs_new {w : World} (hT : Ts w) (HP : ∀ w1, Below w.heap.size w w1 → Prd 1 w1) (e : Ev) : Cs w (w.alloc (.cells #[.int .i64 e.k, .int .i64 e.t] 24)) e := by
  have hb := bal (Below.refl w.heap.size w) (.cells #[.int .i64 e.k, .int .i64 e.t] 24)
  exact ⟨hb, rowE_new w e, HP _ hb, hT.on hb⟩
theorem Cs.end {w w1 w2 w3 : World} {e : Ev} {r : Rv} {L : List Ev} (h : Cs w w1 e) (hk : Ek w1 w2 r L) (hb : Below w2.heap.size w2 w3) : Below w.heap.size w w3 := h.below.trans ((hk.on hb).below.mono h.below.size)
set_option maxRecDepth 100000 in
set_option maxHeartbeats 8000000 in
theorem counts_no (n k : Int) (hn : 0 ≤ n) (hk : 0 ≤ k) (e : Ev) (hf : Fe e) (he : ¬ Eo e) (w : World) (hT : Ts w) (HP : ∀ w1, Below w.heap.size w w1 → Prd 1 w1) :
    Calls Tryd.prog 3 #[.int .u16 n, .int .u16 k, .agg #[.int .i64 e.k, .int .i64 e.t]] w fun x w' => x = .returned (.bool true) ∧ Below w.heap.size w w' := by
  have H0 := rhide (cs_new hT HP e)
  obtain ⟨a, ha, ha3⟩ := rem300 hn
  obtain ⟨b, hb, hb3⟩ := rem300 hk
  have wa : IntKind.i64.wrap (a : Int) = a := wrapi_small (by omega) (by omega)
  have wb : IntKind.i64.wrap (b : Int) = b := wrapi_small (by omega) (by omega)
  clear hT HP hn hk
  go_enter Tryd.func3, Tryd.ntmps3
  go_upto_region 1 with fail
  generalize w.alloc _ = w1 at H0 ⊢
  have HM : Hid (Calls Tryd.prog 6 #[.pointer (some ⟨w1.heap.size + 1, 0, none⟩), .int .i64 0, .agg #[.int .i64 0, .int .i64 0, .int .i64 0, .bool false, .int .i64 0]] (newW w1 1) fun e w' => e = .returned (.int .i64 0) ∧ Ek w1 w' rv0 []) := ek_make (r := rv0) H0.out.pr (by unfold Vo rv0; simp)
  have HTl : Hid (∀ wc, Ek w1 wc rv0 [] → Calls Tryd.prog 7 #[.pointer (some ⟨w1.heap.size + 1, 0, none⟩), .int .i64 0, .agg #[.int .i64 e.k, .int .i64 e.t]] wc fun x w' => x = .returned (.int .i64 1) ∧ Ek w1 w' rv0 []) := fun wc h => ek_tell_no H0.out.pr h hf he
  have HC : Hid (∀ wc, Calls Tryd.prog 8 #[.agg #[.int .i64 e.k, .int .i64 e.t]] wc fun x w' => x = .returned (.int .i64 1) ∧ Below wc.heap.size wc w') := fun wc => by
    have := Pring.check_any e wc
    rwa [Pring.ck_no he] at this
  clear hf he
  go_wp2_with (first
    | (go_at_call 5; refine (new_ok 1 _ (by omega) (by omega)).mono ?_; rintro r1 w2 ⟨rfl, hw⟩; rw [← hw] at HM; clear hw)
    | (go_at_call 6; refine HM.out.mono ?_; rintro r2 w3 ⟨rfl, hw⟩; have H3 := rhide hw; clear hw HM)
    | fail)
  go_loopw [11] (fun i wr => ∃ j : Nat, j ≤ a ∧ i = .int .i64 j ∧ Ek w1 wr rv0 []) (fun i _ => a - (intOf i).toNat)
  case atStart => exact ⟨0, by omega, rfl, H3.out⟩
  case round =>
    obtain ⟨j, hj, rfl, hI⟩ := hrel
    have HI := rhide hI
    have g0 := (H0.out.box.on hI.below).c0
    have g1 := (H0.out.box.on hI.below).c1
    clear hI H3
    by_cases hja : j < a
    · have i1 : (j : Int) < (a : Int) := by omega
      go_upto_region 9 with fail
      go_region_held3 (fun w' => w'.cell? ⟨w.heap.size, 0, none⟩ = some (.int .i64 e.k) ∧ w'.cell? ⟨w.heap.size, 1, none⟩ = some (.int .i64 e.t)) (first | (refine ⟨?_, ?_⟩ <;> with_reducible assumption) | go_keep)
      (first
        | (go_at_call 7; refine (HTl.out _ (by first | exact HI.out | exact HI.out.on (Below.refl _ _).drew)).mono ?_; rintro x3 w4 ⟨rfl, hw⟩; have H4 := rhide hw; clear hw HI HTl g0 g1; have g0 := (H0.out.box.on H4.out.below).c0; have g1 := (H0.out.box.on H4.out.below).c1)
        | (go_at_call 8; refine (HC.out _).mono ?_; rintro x4 w5 ⟨rfl, hw⟩; have H5 := rhide (H4.out.on (by first | exact hw | exact (Below.refl _ _).drew.trans hw)); clear hw H4 HC g0 g1; have g0 := (H0.out.box.on H5.out.below).c0; have g1 := (H0.out.box.on H5.out.below).c1)
        | fail)
      go_wp2
      go_roundw
      case rel => first | exact ⟨j + 1, by omega, by go_num, H5.out⟩ | exact ⟨j + 1, by omega, by go_num, H5.out.on (Below.refl _ _).drew⟩
      case measure => simp [intOf]; omega
    · have i1 : ¬ (j : Int) < (a : Int) := by omega
      have HG : Hid (∀ wc, Ek w1 wc rv0 [] → Calls Tryd.prog 10 #[.pointer (some ⟨w1.heap.size + 1, 0, none⟩), .int .i64 0] wc fun x w' => x = .returned (.tuple #[.agg #[.int .i64 0, .int .i64 0, .int .i64 0, .bool false, .int .i64 0], .int .i64 0]) ∧ Below wc.heap.size wc w') := fun wc h => ek_get H0.out.pr h
      clear g0 g1
      go_upto_region 13 with (first
        | (go_at_call 9; refine (ek_all H0.out.ts HI.out).mono ?_; rintro x6 w6 ⟨a6, cap6, rfl, hr, hw⟩; have H6 := rhide (HI.out.on hw); clear hw hr HI)
        | (go_at_call 10; refine (HG.out _ H6.out).mono ?_; rintro x7 w7 ⟨rfl, hw⟩; have H7 := rhide (H6.out.on hw); clear hw H6 HG)
        | fail)
      have K8 : Ek w1 (w7.alloc (.cells #[.int .i64 0, .int .i64 0, .int .i64 0, .bool false, .int .i64 0] 31)) rv0 [] ∧ RowW (w7.alloc (.cells #[.int .i64 0, .int .i64 0, .int .i64 0, .bool false, .int .i64 0] 31)) w7.heap.size rv0 := ⟨H7.out.on (bal (Below.refl _ _) _), rowW_new w7 rv0⟩
      generalize w7.alloc _ = v8 at K8 ⊢
      generalize w7.heap.size = D at K8 ⊢
      have H8 := rhide K8
      clear K8 H7
      have g0 := (H0.out.box.on H8.out.1.below).c0
      have g1 := (H0.out.box.on H8.out.1.below).c1
      go_wp2_with (first
        | (go_at_call 8; refine (HC.out _).mono ?_; rintro x9 w9 ⟨rfl, hw⟩; have H9 : Hid (Ek w1 w9 rv0 [] ∧ RowW w9 D rv0) := ⟨H8.out.1.on hw, H8.out.2.on hw⟩; clear hw H8 HC g0 g1; have x4 : w9.cell? ⟨D, 4, none⟩ = some (.int .i64 0) := H9.out.2.c4)
        | (go_at_call 11; refine (H0.out.pr.awake _ H9.out.1.below).mono ?_; rintro xA wA ⟨rfl, hw⟩; have HA := rhide (H0.out.end H9.out.1 hw); clear hw)
        | fail)
      go_ret
      exact ⟨rfl, HA.out⟩
end Go.Proofs.YtcoggdnpjpiacaaDoor.Prcv
