/- The document's answer for Pack: for every list of widths and every list of values, what it returns. -/
import Derived.Test.YtkodanflobclhaaDoorFldU
import Derived.Deep.QuietTactic
import Derived.BigQuiet
namespace Go.Proofs.YtkodanflobclhaaDoor.Pfield
open Go.RowKit M
set_option linter.unusedVariables false

theorem sumTo_step {zs : List Int} {k : Nat} {z : Int} (h : zs[k]?.getD 0 = z) (h0 : 0 ≤ sumTo zs k) (h1 : 1 ≤ z) (h2 : z ≤ 64 - sumTo zs k) : sumTo zs (k + 1) = sumTo zs k + z := by
  show wrap64 (sumTo zs k + zs[k]?.getD 0) = _
  rw [h, IntWalk.wrap64_in _ (by omega)]
theorem rpack_ne (a0 a1 : Option Addr) (cap0 cap1 : Nat) (len0 len1 : Nat) (w : World) (hl0 : len0 ≤ 9223372036854775807) (hl1 : len1 ≤ 9223372036854775807) (hne : ((len0 : Int) != (len1 : Int)) = true) :
    Calls Tryd.prog 42 #[.slice a0 len0 cap0, .slice a1 len1 cap1] w fun e W' => e = .returned (.tuple #[.int .u64 0, .int .i64 1]) ∧ W' = w := by
  go_enter Tryd.func42, Tryd.ntmps42
  go_wp2
  go_ret2
  exact ⟨rfl, rfl⟩
theorem pk_ok {zs vs : List Int} {k : Nat} (h : ∀ j, j < k → okP zs vs j = true) (hk : k ≤ zs.length) : ∀ j ∈ upto zs.length k, okP zs vs j.1 = true := by
  intro j hj
  apply h
  unfold upto at hj
  obtain ⟨i, hi, e⟩ := List.mem_iff_getElem.1 hj
  simp at e hi
  have : i = j.1 := by rw [← e]
  omega
set_option maxHeartbeats 1000000 in
theorem rpack_in (a0 a1 : Option Addr) (cap0 cap1 : Nat) (zs vs : List Int) (w : World) (hl0 : zs.length ≤ 9223372036854775807) (hlv : zs.length = vs.length)
    (hv : ∀ j : Nat, 0 ≤ vs[j]?.getD 0 ∧ vs[j]?.getD 0 ≤ 18446744073709551615)
    (hI0 : Ints .i64 w.heap.size w (.slice a0 zs.length cap0) zs) (hI1 : Ints .u64 w.heap.size w (.slice a1 zs.length cap1) vs) :
    Calls Tryd.prog 42 #[.slice a0 zs.length cap0, .slice a1 zs.length cap1] w fun e W' =>
      ((∀ j, j < zs.length → okP zs vs j = true) ∧ e = .returned (.tuple #[.int .u64 (packs zs vs (upto zs.length zs.length)), .int .i64 0]) ∨
       (∃ j, j < zs.length ∧ okP zs vs j = false) ∧ e = .returned (.tuple #[.int .u64 0, .int .i64 1])) ∧ ∃ m, W' = w.drewN m := by
  have HL : Hid (zs.length = vs.length) := hlv
  have HV : Hid (∀ j : Nat, 0 ≤ vs[j]?.getD 0 ∧ vs[j]?.getD 0 ≤ 18446744073709551615) := hv
  have H0 : Hid (Ints .i64 w.heap.size w (.slice a0 zs.length cap0) zs) := hI0
  have H1 : Hid (Ints .u64 w.heap.size w (.slice a1 zs.length cap1) vs) := hI1
  clear hlv hv hI0 hI1
  go_enter Tryd.func42, Tryd.ntmps42
  go_wp2
  go_loopw [6, 7, 8] (fun s t i wr => ∃ k m : Nat, k ≤ zs.length ∧ i = .int .i64 k ∧ t = .int .i64 (sumTo zs k) ∧ s = .int .u64 (packs zs vs (upto zs.length k)) ∧ (∀ j, j < k → okP zs vs j = true) ∧ wr = w.drewN m)
    (fun _ _ i _ => zs.length - (intOf i).toNat)
  case atStart => exact ⟨0, 0, Nat.zero_le _, rfl, rfl, rfl, fun j hj => by omega, rfl⟩
  case round =>
    obtain ⟨k, m, hk, rfl, rfl, rfl, hok0, hwr0⟩ := hrel
    have hwr : Hid (wr = w.drewN m) := hwr0
    have HA : Ints .i64 w.heap.size wr (.slice a0 zs.length cap0) zs := by rw [hwr0]; exact H0.out
    have HB : Ints .u64 w.heap.size wr (.slice a1 zs.length cap1) vs := by rw [hwr0]; exact H1.out
    have H0' : Hid (Ints .i64 w.heap.size wr (.slice a0 zs.length cap0) zs) := HA
    have H1' : Hid (Ints .u64 w.heap.size wr (.slice a1 zs.length cap1) vs) := HB
    clear hwr0 HA HB
    have hok : Hid (∀ j, j < k → okP zs vs j = true) := hok0
    clear hok0
    have hs := sumTo_bd zs k
    have hp := packs_bd zs vs _ (pk_ok hok.out hk)
    by_cases hlt : k < zs.length
    · obtain ⟨bz, oz, z, ha0, hz, HZ⟩ := ints_at' H0'.out hlt
      obtain ⟨bv, ov, v, ha1, hvv, HW⟩ := ints_at' H1'.out (show k < vs.length by have := HL.out; omega)
      have hvx : 0 ≤ v ∧ v ≤ 18446744073709551615 := by rw [← HW.out]; exact HV.out k
      have hki : ((k : Nat) : Int) < (zs.length : Int) := by omega
      by_cases hin : 0 ≤ sumTo zs k ∧ 1 ≤ z ∧ z ≤ 64 - sumTo zs k
      · obtain ⟨i0, i1, i2⟩ := hin
        cases hf : fitsB v z
        · go_wp2
          go_quiet ((go_at_call 52; exact Calls.quiet_of_same (rput_unfit _ _ _ _ _ (by omega) (by omega) (by omega) (by omega) (by omega) hf)))
          go_wp2
          go_ret2
          refine ⟨.inr ⟨⟨k, hlt, ?_⟩, rfl⟩, _, by rw [hwr.out]; exact World.drewN_drewN _ _ _⟩
          unfold okP; rw [HZ.out, HW.out, hf, Bool.and_false]
        · have hst := sumTo_step HZ.out i0 i1 i2
          have HS : Hid (sumTo zs (k + 1) = sumTo zs k + z) := hst
          clear hst
          go_wp2
          go_quiet ((go_at_call 52; exact Calls.quiet_of_same (rput_yes _ _ _ _ _ (by omega) (by omega) (by omega) (by omega) (by omega) (by omega) (by omega) hf)))
          go_wp2
          go_roundw
          case rel =>
            refine ⟨k + 1, _, by omega, by go_num, by rw [HS.out], ?_, fun j hj => ?_, by rw [hwr.out]; exact World.drewN_drewN _ _ _⟩
            · rw [upto_succ hlt, packs_snoc, HZ.out, HW.out]
            · by_cases e : j = k
              · subst e; unfold okP; rw [HZ.out, HW.out, hf, (inB_iff _ _).2 ⟨i0, i1, i2⟩]; rfl
              · exact hok.out j (by omega)
          case measure => simp [intOf]; omega
      · have HN : Hid (¬ (0 ≤ sumTo zs k ∧ 1 ≤ z ∧ z ≤ 64 - sumTo zs k)) := hin
        clear hin
        go_wp2
        go_quiet ((go_at_call 52; exact Calls.quiet_of_same (rput_out _ _ _ _ _ HN.out (by omega))))
        go_wp2
        go_ret2
        refine ⟨.inr ⟨⟨k, hlt, ?_⟩, rfl⟩, _, by rw [hwr.out]; exact World.drewN_drewN _ _ _⟩
        unfold okP
        rw [HZ.out]
        cases hb : inB (sumTo zs k) z
        · rfl
        · exact absurd ((inB_iff _ _).1 hb) HN.out
    · obtain rfl : k = zs.length := by omega
      go_wp2
      go_ret2
      exact ⟨.inl ⟨hok.out, rfl⟩, m, hwr.out⟩
end Go.Proofs.YtkodanflobclhaaDoor.Pfield
