/- The program's Tlb and the document's, side by side. -/
import Derived.Test.YtamfdnkjfmfcoaaTlbW
import Derived.Test.YtamfdnkjfmfcoaaTlbI
namespace Go.Proofs.Ytamfdnkjfmfcoaa
open Go.RowKit Go.ChangeMaps
set_option linter.unusedVariables false

/-- Both remember S, with room for R; nothing of w was changed. -/
structure Both (w wr : World) (p b q R : Nat) (S : List En) : Prop where
  tlb : TlbIs wr p b R S
  ref : ∃ ao cap, RefIs w.heap.size wr q R ao cap S
  below : Below w.heap.size w wr
  base : w.heap.size ≤ b
theorem Both.more {w wr w' : World} {p b q R : Nat} {S : List En} (h : Both w wr p b q R S) (k : Below wr.heap.size wr w') : Both w w' p b q R S := by
  obtain ⟨ao, cap, hr⟩ := h.ref
  exact ⟨h.tlb.more k, ⟨ao, cap, hr.more k⟩, belowt h.below k, h.base⟩
theorem Both.alloc {w wr : World} {p b q R : Nat} {S : List En} (h : Both w wr p b q R S) (o : Obj) : Both w (wr.alloc o) p b q R S := h.more (bal (Below.refl _ _) _)
theorem Both.drew {w wr : World} {p b q R : Nat} {S : List En} (h : Both w wr p b q R S) : Both w wr.drew p b q R S := h.more (Below.refl _ _).drew
theorem Both.drewN {w wr : World} {p b q R : Nat} {S : List En} (h : Both w wr p b q R S) (n : Nat) : Both w (wr.drewN n) p b q R S := h.more (below_drewN (Below.refl _ _) n)
/-- The one did its part; the document's own still has to do hers. -/
structure Half (w wr : World) (p b q R : Nat) (S S' : List En) : Prop where
  tlb : TlbIs wr p b R S'
  ref : ∃ ao cap, RefIs w.heap.size wr q R ao cap S
  below : Below w.heap.size w wr
  base : w.heap.size ≤ b
theorem Both.half {w wr w' : World} {p b q R : Nat} {S S' : List En} (h : Both w wr p b q R S) (ht : TlbIs w' p b R S') (k : But b wr w') : Half w w' p b q R S S' := by
  obtain ⟨ao, cap, hr⟩ := h.ref
  exact ⟨ht, ⟨ao, cap, hr.but h.tlb.map k⟩, h.below.trans (k.below h.base h.below.size), h.base⟩
theorem Half.drewN {w wr : World} {p b q R : Nat} {S S' : List En} (h : Half w wr p b q R S S') (n : Nat) : Half w (wr.drewN n) p b q R S S' := by
  obtain ⟨ao, cap, hr⟩ := h.ref
  exact ⟨h.tlb.drewN n, ⟨ao, cap, hr.drewN n⟩, below_drewN h.below n, h.base⟩
theorem Half.drew {w wr : World} {p b q R : Nat} {S S' : List En} (h : Half w wr p b q R S S') : Half w wr.drew p b q R S S' := by
  obtain ⟨ao, cap, hr⟩ := h.ref
  exact ⟨h.tlb.drew, ⟨ao, cap, hr.drew⟩, h.below.drew, h.base⟩
theorem Half.both {w wr w' : World} {p b q R : Nat} {S S' : List En} (h : Half w wr p b q R S S') (hr : ∃ ao cap, RefIs w.heap.size w' q R ao cap S') (k : Other wr w') (hB : Below w.heap.size wr w') : Both w w' p b q R S' :=
  ⟨h.tlb.other k, hr, h.below.trans hB, h.base⟩
theorem flush_but (p b : Nat) (r : Int) (S : List En) (w : World) (h : TlbIs w p b r S) :
    Calls Try.prog 10 #[.pointer (some ⟨p, 0, none⟩)] w fun e w' => e = .returned (.int .i64 S.length) ∧ TlbIs w' p b r [] ∧ But b w w' := by
  have hp := h.ents
  obtain ⟨o, hc, hm⟩ := clear_map h.map
  have HM : Hid (MapIs (setBlock w b o) b []) := hm
  have H : Hid (TlbIs w p b r S) := h
  clear hm h
  have hl0 : (0 : Int) ≤ S.length := by omega
  by_cases h0 : S.length = 0
  · have HE : Hid (S = []) := List.eq_nil_of_length_eq_zero h0
    have h1 : ¬ (0 : Int) < S.length := by omega
    clear h0
    go_enter Try.func10, Try.ntmps10
    go_wp2_with (go_at_call 15; refine (len_some p b r S _ H.out).mono ?_; rintro e w' ⟨rfl, rfl⟩)
    go_ret
    exact ⟨rfl, HE.out ▸ H.out, But.of_below b (Below.refl _ _)⟩
  · have h1 : (0 : Int) < S.length := by omega
    clear h0
    go_enter Try.func10, Try.ntmps10
    go_wp2_with (go_at_call 15; refine (len_some p b r S _ H.out).mono ?_; rintro e w' ⟨rfl, rfl⟩)
    go_ret
    exact ⟨rfl, H.out.turned HM.out, (But.of_below b (Below.refl _ _)).setBlock o⟩
theorem fine_flush (R T : Nat) : Fine [] R T := ⟨okS_nil, by simp, by simp⟩

/-- The slice of len integers at a lies in blocks below n₀ of W, each integer fitting its kind. -/
def Came (q : IntKind) (n₀ : Nat) (W : World) (a : Option Addr) (len : Nat) : Prop :=
  len = 0 ∨ ∃ b off, a = some ⟨b, off, none⟩ ∧ b < n₀ ∧ ∀ j, j < len → ∃ z, W.cell? ⟨b, off + j, none⟩ = some (.int q z) ∧ (Lit.int q z).wf = true
theorem Came.at {q : IntKind} {n₀ : Nat} {W W' : World} {a : Option Addr} {len : Nat} (h : Came q n₀ W a len) (hB : Below n₀ W W') {j : Nat} (hj : j < len) :
    ∃ b off z, a = some ⟨b, off, none⟩ ∧ W'.cell? ⟨b, off + j, none⟩ = some (.int q z) ∧ Hid ((Lit.int q z).wf = true) := by
  rcases h with h | ⟨b, off, e, hb, hc⟩
  · omega
  · obtain ⟨z, h1, h2⟩ := hc j hj
    exact ⟨b, off, z, e, (hB.cell (p := ⟨b, off + j, none⟩) hb).trans h1, h2⟩
theorem came_addr {W : World} {zs : List Int} {k : IntKind} {x : Addr} (hc : ∀ i, i < zs.length → W.cell? (x.add i) = some (.int k (zs.getD i 0))) (h1 : 0 < zs.length) :
    ∃ b off, x = ⟨b, off, none⟩ ∧ ∀ j, j < zs.length → W.cell? ⟨b, off + j, none⟩ = some (.int k (zs.getD j 0)) := by
  have h0 := hc 0 h1
  rw [Addr.add_zero'] at h0
  obtain ⟨b, off, rfl⟩ := addr_plain h0
  exact ⟨b, off, rfl, fun j hj => by have := hc j hj; rwa [Addr.add_lit] at this⟩
theorem came_of_row {q : IntKind} {W : World} {a : Option Addr} {len cap : Nat} {zs : List Int}
    (h : (a = none ∧ len = 0 ∧ cap = 0 ∧ zs = []) ∨ ∃ x, a = some x ∧ len ≤ cap ∧ cap ≤ maxLen ∧ zs.length = cap ∧ (∀ i, i < zs.length → W.cell? (x.add i) = some (.int q (zs.getD i 0))) ∧ ∀ n ∈ zs, (Lit.int q n).wf = true) :
    Came q W.heap.size W a len ∧ len ≤ 9223372036854775807 := by
  rcases h with ⟨rfl, rfl, rfl, rfl⟩ | ⟨x, rfl, h1, h2, h3, h4, h5⟩
  · exact ⟨.inl rfl, by omega⟩
  · refine ⟨?_, by unfold maxLen at h2; omega⟩
    by_cases h0 : len = 0
    · exact .inl h0
    · obtain ⟨b, off, rfl, hc⟩ := came_addr h4 (by omega)
      have hb : b < W.heap.size := by
        have := hc 0 (by omega)
        exact World.block_lt_of_cell? W _ this
      refine .inr ⟨b, off, rfl, hb, fun j hj => ⟨_, hc j (by omega), ?_⟩⟩
      have hj' : j < zs.length := by omega
      rw [List.getD_eq_getElem?_getD, List.getElem?_eq_getElem hj', Option.getD_some]
      exact h5 _ (List.getElem_mem hj')
end Go.Proofs.Ytamfdnkjfmfcoaa
