/- The document's memory and what its core remembers, side by side: what each call leaves of the other's blocks; its Store once more. -/
import Derived.Test.YthcgdgpflhdchaaGreatDoorAccG
import Derived.Test.YthcgdgpflhdchaaGreatDoorBunPgtbl
import Derived.Test.YthcgdgpflhdchaaGreatDoorBunTlb
import Derived.Test.YthcgdgpflhdchaaGreatDoorBunMem
namespace Go.Proofs.YthcgdgpflhdchaaGreatDoor.Paccess
open Go.Proofs.YthcgdgpflhdchaaGreatDoor.Pbase Go.Proofs.YthcgdgpflhdchaaGreatDoor.Pmem
open Go.RowKit
set_option linter.unusedVariables false

/-! ### what the document's calls write -/
/-- Blocks of the document's own alone were written (words, what is remembered), and blocks were made. -/
structure Doc (w w' : World) : Prop where
  os : w'.os = w.os
  tape : w'.tape = w.tape
  output : w'.output = w.output
  size : w.heap.size ≤ w'.heap.size
  block : ∀ i, i < w.heap.size → (∀ c f, w.heap[i]? ≠ some (.cells c 37 f)) → (∀ c f, w.heap[i]? ≠ some (.cells c 52 f)) → (∀ c f, w.heap[i]? ≠ some (.cells c 59 f)) → w'.heap[i]? = w.heap[i]?
theorem Doc.of_below {w w' : World} (h : Below w.heap.size w w') : Doc w w' := ⟨h.os, h.tape, h.output, h.size, fun i hi _ _ _ => h.block i hi⟩
theorem Doc.of_other {w w' : World} (h : Ptlb.Other w w') : Doc w w' := ⟨h.os, h.tape, h.output, h.size, fun i hi _ h1 h2 => h.block i hi h1 h2⟩
theorem Doc.trans {a w w' : World} (h : Doc a w) (k : Doc w w') : Doc a w' :=
  ⟨k.os.trans h.os, k.tape.trans h.tape, k.output.trans h.output, Nat.le_trans h.size k.size, fun i hi h1 h2 h3 => by
    have e := h.block i hi h1 h2 h3
    exact (k.block i (Nat.lt_of_lt_of_le hi h.size) (by rw [e]; exact h1) (by rw [e]; exact h2) (by rw [e]; exact h3)).trans e⟩
/-- A block of another kind stays. -/
theorem Doc.keep {w w' : World} (h : Doc w w') {i : Nat} {cs : Array Value} {t : TypeId} {fr : Nat × Nat} (hi : w.heap[i]? = some (.cells cs t fr)) (n0 : t ≠ 37) (n1 : t ≠ 52) (n2 : t ≠ 59) : w'.heap[i]? = w.heap[i]? :=
  h.block i (Array.getElem?_eq_some_iff.1 hi).1 (fun c f e => by rw [hi] at e; cases e; exact n0 rfl) (fun c f e => by rw [hi] at e; cases e; exact n1 rfl) (fun c f e => by rw [hi] at e; cases e; exact n2 rfl)
theorem Doc.tlb {w w' : World} {p b : Nat} {r : Int} {S : List Ptlb.En} (h : Ptlb.TlbIs w p b r S) (k : Doc w w') : Ptlb.TlbIs w' p b r S := by
  refine h.on (k.keep h.row (by decide) (by decide) (by decide)) ?_
  obtain ⟨es, clock, hb, _⟩ := h.map
  exact k.block b h.map.lt (fun c f e => by rw [hb] at e; cases e) (fun c f e => by rw [hb] at e; cases e) (fun c f e => by rw [hb] at e; cases e)
/-! ### the document's memory, and what it remembers -/
/-- The document's memory stays where its own blocks do. -/
theorem ref_kept {w w' : World} {base p N : Nat} {M : Nat → Nat → Int} (h : RefIs w base p N M) (keep : ∀ (i : Nat) (cs : Array Value) (t : TypeId), base ≤ i → w.heap[i]? = some (.cells cs t (0, 0)) → t ≠ 52 → t ≠ 59 → w'.heap[i]? = w.heap[i]?) : RefIs w' base p N M := by
  obtain ⟨hp, v, hv, r, c, h1, h2, h3⟩ := h
  refine ⟨hp, v, (keep p _ _ hp hv (by decide) (by decide)).trans hv, r, c, ?_, fun j hj => ?_, h3⟩
  · refine ⟨h1.1, ?_⟩
    rcases h1.2 with e | ⟨g, cap, cur, e, hg, hh, rest⟩
    · exact .inl e
    · exact .inr ⟨g, cap, cur, e, hg, (keep g _ _ hg hh (by decide) (by decide)).trans hh, rest⟩
  · obtain ⟨hb, cu, hc, hw⟩ := h2 j hj
    exact ⟨hb, cu, (keep _ _ _ hb hc (by decide) (by decide)).trans hc, hw⟩
theorem ref_other {w w' : World} {base p N : Nat} {M : Nat → Nat → Int} (h : RefIs w base p N M) (k : Ptlb.Other w w') : RefIs w' base p N M :=
  ref_kept h fun i cs t _ hi n1 n2 => k.block i (Array.getElem?_eq_some_iff.1 hi).1 (fun c f e => by rw [hi] at e; cases e; exact n1 rfl) (fun c f e => by rw [hi] at e; cases e; exact n2 rfl)
/-- What it remembers stays where blocks of these two kinds do. -/
theorem tref_kept {n₀ : Nat} {w w' : World} {q : Nat} {room : Int} {ao : Option Addr} {cap : Nat} {S : List Ptlb.En} (h : Ptlb.RefIs n₀ w q room ao cap S) (keep : ∀ (i : Nat) (cs : Array Value) (t : TypeId), w.heap[i]? = some (.cells cs t (0, 0)) → (t = 52 ∨ t = 59) → w'.heap[i]? = w.heap[i]?) : Ptlb.RefIs n₀ w' q room ao cap S :=
  h.on (keep q _ _ h.row (.inl rfl)) (fun g off _ c hr => keep g _ _ hr (.inr rfl))
/-! ### Store -/
theorem doc_store {w : World} {x j : Nat} {cur : Array Value} (hx : w.heap[x]? = some (.cells cur 37 (0, 0))) (v : Value) : Doc w (w.setCell ⟨x, j, none⟩ v) :=
  ⟨rfl, rfl, rfl, by rw [World.size_setCell]; exact Nat.le_refl _, fun i _ h0 _ _ => heap_setCell_other _ _ _ _ fun e => by
    have e' : i = x := e
    subst e'
    exact h0 _ _ hx⟩
theorem tref_store {w : World} {x j : Nat} {cur : Array Value} (hx : w.heap[x]? = some (.cells cur 37 (0, 0))) (v : Value) {n₀ : Nat} {q : Nat} {room : Int} {ao : Option Addr} {cap : Nat} {S : List Ptlb.En} (h : Ptlb.RefIs n₀ w q room ao cap S) : Ptlb.RefIs n₀ (w.setCell ⟨x, j, none⟩ v) q room ao cap S :=
  tref_kept h fun i cs t hi ht => heap_setCell_other _ _ _ _ fun e => by
    have e' : i = x := e
    subst e'
    rw [hx] at hi
    cases hi
    rcases ht with h | h <;> exact absurd h (by decide)
/-- What the document's Store leaves. -/
def Stored (w w' : World) : Prop := Doc w w' ∧ ∀ n₀ q (room : Int) ao cap S, Ptlb.RefIs n₀ w q room ao cap S → Ptlb.RefIs n₀ w' q room ao cap S
theorem Stored.refl (w : World) : Stored w w := ⟨Doc.of_below (Below.refl _ _), fun _ _ _ _ _ _ h => h⟩
theorem wstore_ok (base p N f a : Nat) (v : Int) (M : Nat → Nat → Int) (w : World) (hf : f < N) (ha : a < 36) (hN : N ≤ 64) (hR : RefIs w base p N M) :
    Calls Tryz.prog 21 #[.pointer (some ⟨p, 0, none⟩), .int .i64 f, .int .i64 a, .int .u64 v] w fun e w' => e = .returned (.int .i64 0) ∧ RefIs w' base p N (fun h b => if h = f ∧ b = a then v else M h b) ∧ Below base w w' ∧ Stored w w' := by
  obtain ⟨g, cap, r, c, hp, hg0, hw0, ht0⟩ := hR.rows (by omega)
  have hg := hg0 f hf
  obtain ⟨hw, hz⟩ := hw0 f a hf ha
  obtain ⟨cur, hcur⟩ := ht0 f hf
  have hok := okF_nat hf
  have hfi : (f : Int) < (N : Int) := by omega
  have hai : (a : Int) < 36 := by omega
  have S := hR.store hf ha hp hg v
  have HS : Hid (RefIs (w.setCell ⟨r f, a, none⟩ (.int .u64 v)) base p N (fun h b => if h = f ∧ b = a then v else M h b) ∧ Below base w (w.setCell ⟨r f, a, none⟩ (.int .u64 v)) ∧ Stored w (w.setCell ⟨r f, a, none⟩ (.int .u64 v))) := ⟨S.1, (Below.refl _ _).setCell S.2 _, doc_store hcur _, fun _ _ _ _ _ _ h => tref_store hcur _ h⟩
  obtain ⟨x, hx⟩ : ∃ x, x = r f := ⟨_, rfl⟩
  obtain ⟨y, hy⟩ : ∃ y, y = c f := ⟨_, rfl⟩
  rw [← hx] at hg hw hz HS
  rw [← hy] at hg
  obtain ⟨m, hm⟩ : ∃ m, m = M f a := ⟨_, rfl⟩
  rw [← hm] at hw
  clear hg0 hw0 hR hm S hx hy ht0 hcur
  go_enter Tryz.func21, Tryz.ntmps21
  go_wp2_with (go_at_call 43; refine (is_any p g cap N f _ hN hp).mono ?_; rintro e w' ⟨rfl, rfl⟩)
  go_ret
  exact ⟨rfl, HS.out⟩
theorem wstore_any (base p N : Nat) (f a v : Int) (M : Nat → Nat → Int) (w : World) (hN1 : 1 ≤ N) (hN : N ≤ 64) (hR : RefIs w base p N M) :
    Calls Tryz.prog 21 #[.pointer (some ⟨p, 0, none⟩), .int .i64 f, .int .i64 a, .int .u64 v] w fun e w' => e = .returned (.int .i64 (errW N f a)) ∧ RefIs w' base p N (stW N M f a v) ∧ Below base w w' ∧ Stored w w' := by
  cases h : okF N f
  · simp only [stW, errW, okW, h, Bool.false_and, Bool.false_eq_true, if_false]
    exact (rstore_badF base p N f a v M w h hN1 hN hR).mono fun _ _ ⟨h1, h2⟩ => ⟨h1, by rw [h2]; exact hR, by rw [h2]; exact ⟨Below.refl _ _, Stored.refl _⟩⟩
  · obtain ⟨c, rfl, hc⟩ := okF_split h
    by_cases ha : 0 ≤ a ∧ a < 36
    · obtain ⟨d, rfl⟩ := Int.eq_ofNat_of_zero_le ha.1
      have : okW N (c : Int) (d : Int) = true := by simp [okW, h]; omega
      simp only [stW, errW, this, if_true, Int.toNat_natCast]
      exact wstore_ok base p N c d v M w hc (by omega) hN hR
    · have : okW N (c : Int) a = false := by simp [okW, h]; omega
      simp only [stW, errW, this, Bool.false_eq_true, if_false]
      exact (rstore_badA base p N c a v M w hc ha hN hR).mono fun _ _ ⟨h1, h2⟩ => ⟨h1, by rw [h2]; exact hR, by rw [h2]; exact ⟨Below.refl _ _, Stored.refl _⟩⟩
/-! ### both side by side -/
structure Rj (w : World) (base q N : Nat) (M : Nat → Nat → Int) (qt R : Nat) (S : List Ptlb.En) : Prop where
  rx : Ppgtbl.Rx w base q N M
  tl : ∃ ao cap, Ptlb.RefIs base w qt R ao cap S
  len : S.length ≤ R
  r8 : R ≤ 8
section
variable {w w' : World} {base q N : Nat} {M M' : Nat → Nat → Int} {qt R : Nat} {S S' : List Ptlb.En}
theorem Rj.on (h : Rj w base q N M qt R S) (hB : Below w.heap.size w w') : Rj w' base q N M qt R S := by
  obtain ⟨ao, cap, ht⟩ := h.tl
  exact ⟨h.rx.grown hB, ⟨ao, cap, ht.more hB⟩, h.len, h.r8⟩
theorem Rj.le (h : Rj w base q N M qt R S) : base ≤ w.heap.size := Ppgtbl.rx_le h.rx
/-- What is remembered has turned. -/
theorem Rj.tlb (h : Rj w base q N M qt R S) (ht : ∃ ao cap, Ptlb.RefIs base w' qt R ao cap S') (hO : Ptlb.Other w w') (hl : S'.length ≤ R) : Rj w' base q N M qt R S' :=
  ⟨⟨ref_other h.rx.ref hO, h.rx.fit, h.rx.n1, h.rx.n64⟩, ht, hl, h.r8⟩
/-- The memory has turned. -/
theorem Rj.mem (h : Rj w base q N M qt R S) (hr : RefIs w' base q N M') (hf : Fit M') (hS : Stored w w') : Rj w' base q N M' qt R S := by
  obtain ⟨ao, cap, ht⟩ := h.tl
  exact ⟨h.rx.turn hr hf, ⟨ao, cap, hS.2 _ _ _ _ _ _ ht⟩, h.len, h.r8⟩
end
end Go.Proofs.YthcgdgpflhdchaaGreatDoor.Paccess
