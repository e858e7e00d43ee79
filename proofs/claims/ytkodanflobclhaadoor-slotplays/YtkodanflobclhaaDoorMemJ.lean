/- Two memories side by side, as the statements lay them; and their comparison. -/
import Derived.Test.YtkodanflobclhaaDoorMemX
import Derived.Test.YtkodanflobclhaaDoorMemW
import Derived.Test.YtkodanflobclhaaDoorMemI
import Derived.Deep.RegionHeld3
import Derived.BigRegion
namespace Go.Proofs.YtkodanflobclhaaDoor.Pmem
open Go.Proofs.YtkodanflobclhaaDoor.Pbase
open Go.RowKit
set_option linter.unusedVariables false

/-- All words are words. -/
def Fit (M : Nat → Nat → Int) : Prop := ∀ f a, 0 ≤ M f a ∧ M f a ≤ 18446744073709551615
theorem Fit.zero : Fit fun _ _ => 0 := fun _ _ => ⟨Int.le_refl _, by show (0 : Int) ≤ _; decide⟩
theorem Fit.st {M : Nat → Nat → Int} (h : Fit M) (N : Nat) (f a v : Int) (hv : 0 ≤ v ∧ v ≤ 18446744073709551615) : Fit (stW N M f a v) := by
  intro g b
  unfold stW
  split
  · dsimp only
    split
    · exact hv
    · exact h g b
  · exact h g b
theorem Fit.cl {M : Nat → Nat → Int} (h : Fit M) (N : Nat) (f : Int) : Fit (clM N M f) := by
  intro g b
  unfold clM
  split
  · dsimp only
    split
    · omega
    · exact h g b
  · exact h g b
/-- A memory and the document's, side by side, hold the same words. -/
structure Both (w wr : World) (N : Nat) (M : Nat → Nat → Int) : Prop where
  mem : MemIs wr (w.heap.size + 1) w.heap.size N M
  ref : RefIs wr (w.heap.size + 2) (w.heap.size + 2) N M
  below : Below w.heap.size w wr
theorem Both.grown {w wr w' : World} {N : Nat} {M : Nat → Nat → Int} (h : Both w wr N M) (hB : Below wr.heap.size wr w') : Both w w' N M :=
  ⟨h.mem.grown hB, h.ref.on fun k _ hk => hB.block k hk, h.below.trans (hB.mono h.below.size)⟩
/-- First the one turns, then the other. -/
structure Half (w wr : World) (N : Nat) (M M' : Nat → Nat → Int) : Prop where
  mem : MemIs wr (w.heap.size + 1) w.heap.size N M'
  ref : RefIs wr (w.heap.size + 2) (w.heap.size + 2) N M
  below : Below w.heap.size w wr
theorem Both.half {w w1 w2 : World} {N : Nat} {M M' : Nat → Nat → Int} (h : Both w w1 N M) (hM : MemIs w2 (w.heap.size + 1) w.heap.size N M') (hB : But w.heap.size w1 w2) : Half w w2 N M M' :=
  ⟨hM, h.ref.on fun k hk hs => hB.block k hs (by omega), h.below.trans (hB.below (Nat.le_refl _) h.below.size)⟩
theorem Half.turn {w w1 w2 : World} {N : Nat} {M M' : Nat → Nat → Int} (h : Half w w1 N M M') (hR : RefIs w2 (w.heap.size + 2) (w.heap.size + 2) N M') (hB : Below (w.heap.size + 2) w1 w2) : Both w w2 N M' :=
  ⟨h.mem.below hB (by omega) (by omega), hR, h.below.trans (hB.mono (by omega))⟩
theorem Half.grown {w w1 w2 : World} {N : Nat} {M M' : Nat → Nat → Int} (h : Half w w1 N M M') (hB : Below w1.heap.size w1 w2) : Half w w2 N M M' :=
  ⟨h.mem.grown hB, h.ref.on fun k _ hk => hB.block k hk, h.below.trans (hB.mono h.below.size)⟩
theorem both_new {w w2 : World} {N : Nat} (h : RefIs w2 (newW w N).heap.size (newW w N).heap.size N fun _ _ => 0) (hB : Below (newW w N).heap.size (newW w N) w2) : Both w w2 N fun _ _ => 0 := by
  rw [newW_size] at h hB
  exact ⟨(newW_is w N).below hB (by omega) (by omega), h, (newW_below w N).trans (hB.mono (by omega))⟩
set_option maxRecDepth 100000 in
set_option maxHeartbeats 2000000 in
theorem laid_any (a : Option Addr) (len cap N : Nat) (w : World) (hN1 : 1 ≤ N) (hN : N ≤ 64) (HC : Hid (Came .u64 w.heap.size w a len)) (hl : len ≤ 9223372036854775807) :
    Calls Tryd.prog 6 #[.int .i64 N, .slice a len cap] w fun e w' => e = .returned (.tuple #[.pointer (some ⟨w.heap.size + 1, 0, none⟩), .pointer (some ⟨w.heap.size + 2, 0, none⟩)]) ∧ ∃ M, Fit M ∧ Both w w' N M := by
  have hw36 : wrap64 (36 * (N : Int)) = 36 * (N : Int) := by simp only [wrap64]; omega
  go_enter Tryd.func6, Tryd.ntmps6
  go_wp2_with (first
    | (go_at_call 19; refine (new_ok N _ hN1 hN).mono ?_; rintro e w1 ⟨rfl, hw1⟩; have HW1 : Hid (w1 = newW w N) := hw1; clear hw1)
    | (go_at_call 20; refine (rnew_ok N _ hN1 hN).mono ?_; rintro e w2 ⟨he, hR2, hB2⟩; rw [HW1.out] at he hR2 hB2; have HI0 : Hid (Both w w2 N fun _ _ => 0) := both_new hR2 hB2; rw [newW_size] at he; subst he; clear hR2 hB2 HW1)
    | fail)
  go_loopw [10] (fun i wr => ∃ k : Nat, k ≤ len ∧ i = .int .i64 k ∧ ∃ M, Fit M ∧ Both w wr N M) (fun i _ => len - (intOf i).toNat)
  case atStart => exact ⟨0, by omega, rfl, _, Fit.zero, HI0.out⟩
  case round =>
    obtain ⟨k, hk, rfl, M, hF, hI⟩ := hrel
    have HI : Hid (Both w wr N M) := hI
    have HF : Hid (Fit M) := hF
    clear hI hF HI0
    by_cases hlt : k < len
    · have hki : (k : Int) < (len : Int) := by omega
      by_cases h36 : (k : Int) < 36 * (N : Int)
      · obtain ⟨bs, os, z, rfl, hbl, hz⟩ := HC.out.at2 HI.out.below hlt
        obtain ⟨bs', os', z', e1, hz1, hz2⟩ := HC.out.at HI.out.below hlt
        cases e1
        obtain rfl : z = z' := by rw [hz] at hz1; cases hz1; rfl
        have HZ : Hid (0 ≤ z ∧ z ≤ 18446744073709551615) := bounds_u64 hz2
        have HL : Hid (bs < w.heap.size) := hbl
        have HX : Hid (wr.cell? ⟨bs, os + k, none⟩ = some (.int .u64 z)) := hz
        clear hz1 hz2 hbl
        go_wp2_with (first
          | (go_at_call 21; refine (store_any _ _ N _ _ z M _ hN1 hN HI.out.mem).mono ?_; rintro e w3 ⟨rfl, hw3⟩; have HB3 : But w.heap.size wr w3 := (by rw [hw3]; exact (But.refl _ wr).setRow _); have H3 := HI.out.half (by rw [hw3]; exact HI.out.mem.set _) HB3; clear hw3; have hz3 : w3.cell? ⟨bs, os + k, none⟩ = some (.int .u64 z) := (HB3.cell (Nat.lt_of_lt_of_le HL.out HI.out.below.size) (Nat.ne_of_lt HL.out)).trans HX.out; clear HB3)
          | (go_at_call 22; refine (rstore_any _ _ N _ _ z M _ hN1 hN H3.ref).mono ?_; rintro e w4 ⟨rfl, hr4, hb4⟩; have H4 := H3.turn hr4 hb4; clear hr4 hb4)
          | fail)
        have HJ : Hid (∃ M, Fit M ∧ Both w w4 N M) := ⟨_, HF.out.st N _ _ z HZ.out, H4⟩
        clear H3 H4 hz3
        go_roundw
        case rel => exact ⟨k + 1, by omega, by go_num, HJ.out⟩
        case measure => simp [intOf]; omega
      · go_wp2
        go_ret2
        exact ⟨rfl, M, HF.out, HI.out⟩
    · have hki : ¬ (k : Int) < (len : Int) := by omega
      go_wp2
      go_ret2
      exact ⟨rfl, M, HF.out, HI.out⟩

/-! ### alike -/
set_option maxRecDepth 100000 in
set_option maxHeartbeats 2000000 in
theorem alike_any (N : Nat) (M : Nat → Nat → Int) (w0 w : World) (hN1 : 1 ≤ N) (hN : N ≤ 64) (HB : Hid (Both w0 w N M)) :
    Calls Tryd.prog 17 #[.pointer (some ⟨w0.heap.size + 1, 0, none⟩), .pointer (some ⟨w0.heap.size + 2, 0, none⟩)] w fun e w' => e = .returned (.bool true) ∧ Below w.heap.size w w' := by
  generalize hp0 : w0.heap.size + 1 = p at HB
  generalize hq0 : w0.heap.size + 2 = q at HB
  have HP : Hid (w0.heap.size + 1 = p ∧ w0.heap.size + 2 = q) := ⟨hp0, hq0⟩
  clear hp0 hq0
  go_enter Tryd.func17, Tryd.ntmps17
  go_wp2
  go_loopw [5] (fun i wr => ∃ k : Nat, k ≤ N ∧ i = .int .i64 k ∧ Below w.heap.size w wr) (fun i _ => N - (intOf i).toNat)
  case atStart => exact ⟨0, by omega, rfl, Below.refl _ _⟩
  case round =>
    obtain ⟨k, hk, rfl, hB⟩ := hrel
    obtain ⟨wo, hwo⟩ : ∃ wo, wo = wr := ⟨_, rfl⟩
    subst hwo
    have HO : Hid (Below w.heap.size w wo) := hB
    have HI : Hid (Both w0 wo N M) := HB.out.grown hB
    clear hB
    obtain ⟨g, cap, r, c, hp, hg0, hw0, _, _⟩ := HI.out.ref.parts hN1
    rw [HP.out.2] at hp
    by_cases hlt : k < N
    · have hki : (k : Int) < (N : Int) := by omega
      have hgk := hg0 k hlt
      have HW : Hid (∀ j, j < 36 → wo.cell? ⟨r k, j, none⟩ = some (.int .u64 (M k j))) := fun j hj => (hw0 k j hlt hj).1
      clear hg0 hw0
      generalize r k = x at hgk HW
      generalize c k = cx at hgk
      have HPP : Hid (wo.cell? ⟨q, 0, none⟩ = some (.slice (some ⟨g, 0, none⟩) N cap)) := hp
      have HGG : Hid (wo.cell? ⟨g, k, none⟩ = some (.slice (some ⟨x, 0, none⟩) 36 cx)) := hgk
      go_wp2_with (first
        | (go_at_call 33; refine (words_ok p w0.heap.size N k M _ hlt hN (by have := HI.out.mem; rwa [HP.out.1] at this)).mono ?_; rintro e w1 ⟨rfl, hw1⟩; have B1 : Below wo.heap.size wo w1 := (by rw [hw1]; exact bal (Below.refl _ _) _); have H1 : Hid (Below wo.heap.size wo w1) := B1; have HL : Hid (∀ j, j < 36 → w1.cell? ⟨wo.heap.size, j, none⟩ = some (.int .u64 (M k j))) := (fun j hj => by rw [hw1, wordsW, World.cell?_alloc_new, List.getElem?_toArray, frameM_get hj]); clear hw1 hp hgk; have hp := (B1.cell (p := ⟨q, 0, none⟩) (World.block_lt_of_cell? wo _ HPP.out)).trans HPP.out; have hgk := (B1.cell (p := ⟨g, k, none⟩) (World.block_lt_of_cell? wo _ HGG.out)).trans HGG.out; have HW1 : Hid (∀ j, j < 36 → w1.cell? ⟨x, j, none⟩ = some (.int .u64 (M k j))) := (fun j hj => (B1.cell (p := ⟨x, j, none⟩) (World.block_lt_of_cell? wo _ (HW.out j hj))).trans (HW.out j hj)); clear B1)
        | fail)
      have HP1 : Hid (w1.cell? ⟨q, 0, none⟩ = some (.slice (some ⟨g, 0, none⟩) N cap)) := hp
      have HG1 : Hid (w1.cell? ⟨g, k, none⟩ = some (.slice (some ⟨x, 0, none⟩) 36 cx)) := hgk
      clear hp hgk HW HPP HGG
      generalize wo.heap.size = D at HL ⊢
      go_loopw [8] (fun i wr => ∃ j n : Nat, j ≤ 36 ∧ i = .int .i64 j ∧ wr = w1.drewN n) (fun i _ => 36 - (intOf i).toNat)
      case atStart => exact ⟨0, 0, by omega, rfl, rfl⟩
      case round =>
        obtain ⟨j, n, hj, rfl, hwr0⟩ := hrel
        have hwr : Hid (wr = w1.drewN n) := hwr0
        have h3 : wr.cell? ⟨q, 0, none⟩ = some (.slice (some ⟨g, 0, none⟩) N cap) := by rw [hwr0]; exact HP1.out
        have h4 : wr.cell? ⟨g, k, none⟩ = some (.slice (some ⟨x, 0, none⟩) 36 cx) := by rw [hwr0]; exact HG1.out
        by_cases hjl : j < 36
        · have h1 : wr.cell? ⟨D, j, none⟩ = some (.int .u64 (M k j)) := by rw [hwr0]; exact HL.out j hjl
          have h2 : wr.cell? ⟨x, j, none⟩ = some (.int .u64 (M k j)) := by rw [hwr0]; exact HW1.out j hjl
          have hji : (j : Int) < 36 := by omega
          generalize M k j = u at h1 h2
          clear hwr0
          go_wp2
          go_quiet (fail)
          go_wp2
          go_roundw
          case rel => exact ⟨j + 1, _, by omega, by go_num, by rw [hwr.out]; exact World.drewN_drewN _ _ _⟩
          case measure => simp [intOf]; omega
        · obtain rfl : j = 36 := by omega
          have HE : Hid (Below w.heap.size w wr) := by rw [hwr0]; exact (HO.out.trans (H1.out.mono HO.out.size)).trans (below_drew' _ _ _)
          clear hwr0
          go_wp2
          go_roundw
          case rel => exact ⟨k + 1, by omega, by go_num, HE.out⟩
          case measure => simp [intOf]; omega
    · obtain rfl : k = N := by omega
      clear hg0 hw0
      have HM : Hid (∀ n, (wo.drewN n).cell? ⟨p, 0, none⟩ = some (.slice (some ⟨w0.heap.size, 0, none⟩) k k)) := fun n => by
        have := HI.out.mem.cell
        rw [HP.out.1] at this
        exact this
      go_wp2
      go_quiet ((go_at_call 34; exact Calls.quiet_of_same (len_some p w0.heap.size k _ hN (HM.out _))))
      go_wp2
      go_ret
      exact ⟨by first | rfl | simp, HO.out.trans (below_drew' _ _ _)⟩
end Go.Proofs.YtkodanflobclhaaDoor.Pmem
