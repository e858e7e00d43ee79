/- The document's memory: what Copy and Words answer and do, for every argument. -/
import Derived.Test.YtlpnnpapeoahkaaDoorMemT
import Derived.BigRegion
namespace Go.Proofs.YtlpnnpapeoahkaaDoor
open Go.RowKit
set_option linter.unusedVariables false

theorem copy_step {f t k h b : Nat} {M : Nat → Nat → Int} : (if h = t ∧ b = k then M f k else if h = t ∧ b < k then M f b else M h b) = if h = t ∧ b < k + 1 then M f b else M h b := by
  by_cases e1 : h = t
  · by_cases e2 : b = k
    · subst e2; simp [e1]
    · by_cases e3 : b < k
      · simp [e1, e2, e3, Nat.lt_succ_of_lt e3]
      · have : ¬ b < k + 1 := by omega
        simp [e1, e2, e3, this]
  · simp [e1]
/-! ### Words -/
theorem rwords_ok (base p N f : Nat) (M : Nat → Nat → Int) (w : World) (hf : f < N) (hN : N ≤ 64) (hR : RefIs w base p N M) :
    Calls Tryd.prog 38 #[.pointer (some ⟨p, 0, none⟩), .int .i64 f] w fun e w' => ∃ x c, e = .returned (.tuple #[.slice (some ⟨x, 0, none⟩) 36 c, .int .i64 0]) ∧ (∀ j, j < 36 → w'.cell? ⟨x, 0 + j, none⟩ = some (.int .u64 (M f j))) ∧ Below w.heap.size w w' := by
  obtain ⟨l, cap, r, c, hp, hg0, hw0, _, _⟩ := hR.parts (by omega)
  have hcf := hg0 f hf
  have hok := okF_nat hf
  have hfi : (f : Int) < (N : Int) := by omega
  obtain ⟨it, hi, hz0, hz1, hz2⟩ := info_parts infoWordM
  have hbl := World.block_lt_of_cell? w _ (hw0 f 0 hf (by omega)).1
  have HR : Hid (∀ j v, (frameM M f)[j]? = some v → (w.alloc (.cells #[] 48)).cell? ((⟨r f, 0, none⟩ : Addr).add j) = some v) := by
    intro j v hv
    have hj : j < 36 := by have := (List.getElem?_eq_some_iff.1 hv).1; rwa [frameM_len] at this
    rw [Addr.add_mid, World.cell?_alloc_lt _ _ _ (show (⟨r f, 0 + j, none⟩ : Addr).block < w.heap.size from hbl), Nat.zero_add, (hw0 f j hf hj).1, ← hv, frameM_get hj]
  have HO : Hid ((w.alloc (.cells #[] 48)).ownsRow w.heap.size 48 1 (.slice (some ⟨w.heap.size, 0, none⟩) 0 0) 0 []) :=
    ⟨rfl, .inr ⟨_, 0, #[], rfl, Nat.le_refl _, heap_alloc_new _ _, Nat.le_refl _, Nat.zero_le _, rfl, rfl⟩⟩
  have hpl := World.block_lt_of_cell? w _ hp
  have hll := World.block_lt_of_cell? w _ hcf
  have hp' : (w.alloc (.cells #[] 48)).cell? ⟨p, 0, none⟩ = some (.slice (some ⟨l, 0, none⟩) N cap) := by rw [World.cell?_alloc_lt _ _ _ hpl]; exact hp
  have hc' : (w.alloc (.cells #[] 48)).cell? ⟨l, f, none⟩ = some (.slice (some ⟨r f, 0, none⟩) 36 (c f)) := by rw [World.cell?_alloc_lt _ _ _ hll]; exact hcf
  have HL : Hid ((frameM M f).length = 36) := frameM_len M f
  have H1 : Hid (∀ v ∈ frameM M f, v.oneCell' = true) := frameM_one M f
  have HG : Hid (∀ j, j < 36 → (frameM M f)[j]? = some (.int .u64 (M f j))) := fun j hj => frameM_get hj
  obtain ⟨x, hx⟩ : ∃ x, x = r f := ⟨_, rfl⟩
  obtain ⟨cx, hcx⟩ : ∃ x, x = c f := ⟨_, rfl⟩
  obtain ⟨C, hC⟩ : ∃ C, C = frameM M f := ⟨_, rfl⟩
  rw [← hx] at hc' HR
  rw [← hcx] at hc'
  rw [← hC] at HR HL H1 HG
  clear hg0 hw0 hR hx hcx hC hcf hbl hpl hll
  go_enter Tryd.func38, Tryd.ntmps38
  go_wp2_with (first
    | (go_at_call 28; refine (is_any p l cap N f _ hN hp).mono ?_; rintro e w' ⟨rfl, hw'⟩; subst hw')
    | (at_builtin; refine wpList_append_own _ rfl _ _ 22 rfl w'.heap.size 48 it (.int .u64 0) 1 8 Tryd.underlying22 hi hz0 hz1 hz2 rfl (by decide) _ _ _ rfl HO.out ⟨x, 0, none⟩ 36 cx C rfl HL.out HR.out H1.out (by unfold maxLen; omega) (by omega) (by simp) ?_; intro v' w1 hown' hgrow _; have HW : Hid (w1.ownsRow w'.heap.size 48 1 v' 36 C) := hown'; have HGR : Hid ((w'.alloc (.cells #[] 48)).grownBy w1 (some w'.heap.size)) := hgrow; clear hown' hgrow))
  rcases HW.out.2 with ⟨_, e⟩ | ⟨x', cap', cur, rfl, _⟩
  · cases e
  · go_ret2
    refine ⟨x', cap', rfl, fun j hj => ?_, ((Below.refl _ _).alloc (Nat.le_refl _) _).grown HGR.out (by simp) (fun k e => by cases e; exact Nat.le_refl _)⟩
    rw [Nat.zero_add, HW.out.cellAt (g := x') j (by omega)]
    exact HG.out j hj
theorem rwords_bad (base p N : Nat) (f : Int) (M : Nat → Nat → Int) (w : World) (hok : okF N f = false) (hN1 : 1 ≤ N) (hN : N ≤ 64) (hR : RefIs w base p N M) :
    Calls Tryd.prog 38 #[.pointer (some ⟨p, 0, none⟩), .int .i64 f] w fun e w' => e = .returned (.tuple #[.slice none 0 0, .int .i64 1]) ∧ w' = w := by
  obtain ⟨l, cap, r, c, hp, _, _, _, _⟩ := hR.parts hN1
  clear hR
  go_enter Tryd.func38, Tryd.ntmps38
  go_wp2_with (go_at_call 28; refine (is_any p l cap N f _ hN hp).mono ?_; rintro e w' ⟨rfl, rfl⟩)
  go_ret2
  exact ⟨rfl, rfl⟩

end Go.Proofs.YtlpnnpapeoahkaaDoor
