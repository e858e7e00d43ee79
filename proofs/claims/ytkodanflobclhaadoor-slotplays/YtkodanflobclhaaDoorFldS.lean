/- The document's answer for Unpack: for every list of at most a thousand widths and every word, what it returns; the parts lie in memory of its own. -/
import Derived.Test.YtkodanflobclhaaDoorFldR
import Derived.OwnWalk
namespace Go.Proofs.YtkodanflobclhaaDoor.Pfield
open Go.RowKit M
set_option linter.unusedVariables false

set_option maxHeartbeats 1000000 in
theorem runpack_in (a0 : Option Addr) (cap0 : Nat) (zs : List Int) (x : Int) (w : World) (hl0 : zs.length ≤ 1000) (hx0 : 0 ≤ x ∧ x ≤ 18446744073709551615)
    (hI0 : Ints .i64 w.heap.size w (.slice a0 zs.length cap0) zs) :
    Calls Tryd.prog 45 #[.slice a0 zs.length cap0, .int .u64 x] w fun e W' =>
      (((∀ j, j < zs.length → okU zs j = true) ∧ fitsB x (sumTo zs zs.length) = true ∧ ∃ v, e = .returned (.tuple #[v, .int .i64 0]) ∧ W'.ownsRow w.heap.size 58 1 v zs.length (gets x zs (upto zs.length zs.length))) ∨
       (((∃ j, j < zs.length ∧ okU zs j = false) ∨ fitsB x (sumTo zs zs.length) = false) ∧ e = .returned (.tuple #[.slice none 0 0, .int .i64 1]))) ∧ Below w.heap.size w W' := by
  have H0 : Hid (Ints .i64 w.heap.size w (.slice a0 zs.length cap0) zs) := hI0
  clear hI0
  obtain ⟨it, hi, hz0, hz1, hz2⟩ := info_parts infoWord
  go_enter Tryd.func45, Tryd.ntmps45
  go_wp2
  go_loopw [6, 7, 8] (fun s t i wr => ∃ (k : Nat) (v : Value), k ≤ zs.length ∧ i = .int .i64 k ∧ t = .int .i64 (sumTo zs k) ∧ s = v ∧ wr.ownsRow w.heap.size 58 1 v k (gets x zs (upto zs.length k)) ∧ (∀ j, j < k → okU zs j = true) ∧ Below w.heap.size w wr)
    (fun _ _ i _ => zs.length - (intOf i).toNat)
  case atStart => exact ⟨0, _, Nat.zero_le _, rfl, rfl, rfl, World.ownsRow_nil _ _ _ _, fun j hj => by omega, Below.refl _ _⟩
  case round =>
    obtain ⟨k, v, hk, rfl, rfl, hv, hrow, hok0, hB0⟩ := hrel
    obtain ⟨av, cv, hvs⟩ := ownsRow_slice hrow
    subst hv
    subst hvs
    have hok : Hid (∀ j, j < k → okU zs j = true) := hok0
    have hB : Hid (Below w.heap.size w wr) := hB0
    have hsz : w.heap.size ≤ wr.heap.size := hB0.size
    clear hok0 hB0
    have hs := sumTo_bd zs k
    by_cases hlt : k < zs.length
    · obtain ⟨bz, oz, z, rfl, hbz, hz, HZ⟩ := ints_at2 (H0.out.below hB.out) hlt
      have hki : ((k : Nat) : Int) < (zs.length : Int) := by omega
      by_cases hin : 0 ≤ sumTo zs k ∧ 1 ≤ z ∧ z ≤ 64 - sumTo zs k
      · obtain ⟨i0, i1, i2⟩ := hin
        have HS : Hid (sumTo zs (k + 1) = sumTo zs k + z) := sumTo_step HZ.out i0 i1 i2
        have HR : Hid (∀ g, (Value.slice av k cv).ownBlock = some g → w.heap.size ≤ g) := fun g e => (hrow.lt g e).1
        go_wp2_with (first
          | (go_at_call 55; refine (rget_yes _ _ _ _ (by omega) (by omega) (by omega) (by omega) (by omega)).mono ?_; rintro e w' ⟨rfl, hw'⟩; subst w')
          | (at_builtin; refine wpList_append_own _ rfl _ _ 22 rfl w.heap.size 58 it (.int .u64 0) 1 8 Tryd.underlying22 hi hz0 hz1 hz2 rfl (by decide) _ _ _ rfl (hrow.alloc _) ⟨wr.heap.size, 0, none⟩ 1 1 [.int .u64 (getF x (sumTo zs k) z)] rfl rfl (cell_one_new wr _ _) (by simp [Value.oneCell']) (by unfold maxLen; omega) (by omega) (by simp; omega) ?_; intro v' w1 hown' hgrow _; obtain ⟨g', cap', rfl⟩ := ownsRow_succ hown'; have hb1 : Below w.heap.size wr w1 := ((Below.refl _ _).alloc (by omega) _).grown hgrow (by simp; omega) (fun k e => HR.out k e); have hzw : w1.cell? ⟨bz, oz + k, none⟩ = some (.int .i64 z) := (hb1.cell (p := ⟨bz, oz + k, none⟩) hbz).trans hz))
        go_roundw
        case rel =>
          refine ⟨k + 1, _, by omega, by go_num, by rw [HS.out], rfl, ?_, fun j hj => ?_, hB.out.trans hb1⟩
          · rw [upto_succ hlt, gets_snoc, HZ.out]; exact hown'
          · by_cases e : j = k
            · subst e; unfold okU; rw [HZ.out]; exact (inB_iff _ _).2 ⟨i0, i1, i2⟩
            · exact hok.out j (by omega)
        case measure => simp [intOf]; omega
      · have HN : Hid (¬ (0 ≤ sumTo zs k ∧ 1 ≤ z ∧ z ≤ 64 - sumTo zs k)) := hin
        clear hin
        go_wp2_with (go_at_call 55; refine (rget_no _ _ _ _ HN.out (by omega)).mono ?_; rintro e w' ⟨rfl, hw'⟩; subst w')
        go_ret2
        refine ⟨.inr ⟨.inl ⟨k, hlt, ?_⟩, rfl⟩, hB.out⟩
        unfold okU
        rw [HZ.out]
        cases hb : inB (sumTo zs k) z
        · rfl
        · exact absurd ((inB_iff _ _).1 hb) HN.out
    · obtain rfl : k = zs.length := by omega
      cases hf : fitsB x (sumTo zs zs.length)
      · go_wp2_with (go_at_call 56; refine (rfits_any _ _ _ (by omega) (by omega)).mono ?_; rintro e w' ⟨rfl, hw'⟩; subst w')
        go_ret2
        exact ⟨.inr ⟨.inr hf, rfl⟩, hB.out⟩
      · go_wp2_with (go_at_call 56; refine (rfits_any _ _ _ (by omega) (by omega)).mono ?_; rintro e w' ⟨rfl, hw'⟩; subst w')
        go_ret2
        exact ⟨.inl ⟨hok.out, hf, _, rfl, hrow⟩, hB.out⟩
end Go.Proofs.YtkodanflobclhaaDoor.Pfield
