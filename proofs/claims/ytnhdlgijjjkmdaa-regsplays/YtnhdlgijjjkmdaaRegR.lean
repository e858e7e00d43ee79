/- The document's own registers (a list): where they lie, and what each call answers and does, for every argument. -/
import Derived.Test.YtnhdlgijjjkmdaaRegT
import Derived.Maps.AppendAt
import Derived.OwnWalk
import Derived.Deep.LoopGhost
namespace Go.Proofs.Ytnhdlgijjjkmdaa
open Go.RowKit
set_option linter.unusedVariables false

/-- The document's file lies behind the pointer to block q, its list in block b: both from base on. -/
structure RefAt (w : World) (base q : Nat) (L : Nat → Int) (b cap : Nat) : Prop where
  ge : base ≤ q
  head : w.heap[q]? = some (.cells #[.slice (some ⟨b, 0, none⟩) 8 cap] 51 (0, 0))
  list : ListIs w b L
  gb : base ≤ b
def RefIs (w : World) (base q : Nat) (L : Nat → Int) : Prop := ∃ b cap, RefAt w base q L b cap
theorem RefAt.cell {w : World} {base q : Nat} {L : Nat → Int} {b cap : Nat} (h : RefAt w base q L b cap) : w.cell? ⟨q, 0, none⟩ = some (.slice (some ⟨b, 0, none⟩) 8 cap) := by
  rw [cell_of_row w q 0 _ _ _ h.head]; rfl
theorem RefAt.free {w : World} {base q : Nat} {L : Nat → Int} {b cap : Nat} (h : RefAt w base q L b cap) : w.frozen? ⟨q, 0, none⟩ = false := frozen_of_row w q 0 _ _ h.head
theorem RefAt.lt {w : World} {base q : Nat} {L : Nat → Int} {b cap : Nat} (h : RefAt w base q L b cap) : q < w.heap.size := (Array.getElem?_eq_some_iff.1 h.head).1
theorem RefAt.ne {w : World} {base q : Nat} {L : Nat → Int} {b cap : Nat} (h : RefAt w base q L b cap) : q ≠ b := by
  rintro rfl
  obtain ⟨cur, h1, _⟩ := h.list
  rw [h.head] at h1
  simp at h1
theorem RefIs.on {w w' : World} {base q : Nat} {L : Nat → Int} (h : RefIs w base q L) (hk : ∀ k, base ≤ k → k < w.heap.size → w'.heap[k]? = w.heap[k]?) : RefIs w' base q L := by
  obtain ⟨b, cap, h⟩ := h
  exact ⟨b, cap, h.ge, (hk q h.ge h.lt).trans h.head, h.list.on (hk b h.gb h.list.lt), h.gb⟩
theorem RefIs.more {w w' : World} {base q : Nat} {L : Nat → Int} (h : RefIs w base q L) (k : Below w.heap.size w w') : RefIs w' base q L := h.on fun i _ hi => k.block i hi
theorem RefIs.drewN {w : World} {base q : Nat} {L : Nat → Int} (h : RefIs w base q L) (n : Nat) : RefIs (w.drewN n) base q L := h.on fun _ _ _ => rfl
theorem RefIs.drew {w : World} {base q : Nat} {L : Nat → Int} (h : RefIs w base q L) : RefIs w.drew base q L := h.on fun _ _ _ => rfl
theorem RefIs.setRow {w : World} {base q : Nat} {L : Nat → Int} (h : RefIs w base q L) {p : Nat} (hp : p < base) (cs : Array Value) : RefIs (w.setRow p cs) base q L := h.on fun k hk _ => setRow_other w p k cs (by omega)

/-- A row of the call's own that holds eight words is a list. -/
theorem owns_list {w : World} {base : Nat} {v : Value} {L : Nat → Int} (h : w.ownsRow base 33 1 v 8 (regL L)) : ∃ g cap, v = .slice (some ⟨g, 0, none⟩) 8 cap ∧ base ≤ g ∧ ListIs w g L := by
  rcases h.2 with ⟨_, e⟩ | ⟨g, cap, cur, e, hg, hh, _, _, _, ht⟩
  · cases e
  · refine ⟨g, cap, e, hg, cur, hh, fun j hj => ?_⟩
    have := congrArg (fun l => l[j]?) ht
    simp only [Nat.mul_one, List.getElem?_take, hj, if_true, Array.getElem?_toList, regL_get hj] at this
    exact this
theorem own_empty (w : World) : (w.alloc (.cells #[] 33)).ownsRow w.heap.size 33 1 (.slice (some ⟨w.heap.size, 0, none⟩) 0 0) 0 [] :=
  World.ownsRow_made w #[] 0 (Nat.le_refl _) (by decide) rfl
theorem own_ge {w : World} {base : Nat} {e : TypeId} {v : Value} {n : Nat} {xs : List Value} (h : w.ownsRow base e 1 v n xs) : ∀ k, v.ownBlock = some k → base ≤ k := fun k hk => (h.lt k hk).1
theorem eight_cells {w : World} {b off : Nat} {A : Nat → Int} (h : ∀ j, j < 8 → w.cell? ⟨b, off + j, none⟩ = some (.int .u64 (A j))) : ∀ j u, (regL A)[j]? = some u → w.cell? ((⟨b, off, none⟩ : Addr).add j) = some u := by
  intro j u hu
  have hj : j < 8 := by have := (List.getElem?_eq_some_iff.1 hu).1; rwa [regL_len] at this
  rw [Addr.add_mid, h j hj, ← hu, regL_get hj]

/-! ### Get, Set -/
theorem rget_any (base q : Nat) (i : Int) (L : Nat → Int) (w : World) (hR : RefIs w base q L) :
    Calls Try.prog 14 #[.pointer (some ⟨q, 0, none⟩), .int .i64 i] w fun e w' => e = .returned (.tuple #[.int .u64 (getR L i), .int .i64 (errR i)]) ∧ w' = w := by
  obtain ⟨b, cap, h⟩ := hR
  cases hk : okR i
  · simp only [getR, errR, hk, Bool.false_eq_true, if_false]
    have hb := okR_no hk
    clear h hk
    by_cases hn : i < 0
    · clear hb
      go_enter Try.func14, Try.ntmps14
      go_wp2
      go_ret2
      exact ⟨rfl, rfl⟩
    · have hge : 8 ≤ i := by omega
      clear hb
      go_enter Try.func14, Try.ntmps14
      go_wp2
      go_ret2
      exact ⟨rfl, rfl⟩
  · obtain ⟨g, rfl, hg⟩ := okR_split hk
    simp only [getR, errR, hk, if_true, Int.toNat_natCast]
    have hp := h.cell
    have hc := h.list.cell hg
    have hgi : (g : Int) < 8 := by omega
    obtain ⟨m, hm⟩ : ∃ m, m = L g := ⟨_, rfl⟩
    rw [← hm] at hc ⊢
    clear hm h hk
    go_enter Try.func14, Try.ntmps14
    go_wp2
    go_ret2
    exact ⟨rfl, rfl⟩
theorem rset_any (base q : Nat) (i v : Int) (L : Nat → Int) (w : World) (hR : RefIs w base q L) :
    Calls Try.prog 12 #[.pointer (some ⟨q, 0, none⟩), .int .i64 i, .int .u64 v] w fun e w' => e = .returned (.int .i64 (errR i)) ∧ RefIs w' base q (setR L i v) ∧ Below base w w' := by
  obtain ⟨b, cap, h⟩ := id hR
  cases hk : okR i
  · simp only [setR, errR, hk, Bool.false_eq_true, if_false]
    have hb := okR_no hk
    have HR : Hid (RefIs w base q L) := hR
    clear h hk hR
    by_cases hn : i < 0
    · clear hb
      go_enter Try.func12, Try.ntmps12
      go_wp2
      go_ret
      exact ⟨rfl, HR.out, Below.refl _ _⟩
    · have hge : 8 ≤ i := by omega
      clear hb
      go_enter Try.func12, Try.ntmps12
      go_wp2
      go_ret
      exact ⟨rfl, HR.out, Below.refl _ _⟩
  · obtain ⟨g, rfl, hg⟩ := okR_split hk
    have hE : errR (g : Int) = 0 := by simp only [errR, hk, if_true]
    rw [hE]
    have HF : Hid (RefIs (w.setCell ⟨b, g, none⟩ (.int .u64 v)) base q (setR L g v) ∧ Below base w (w.setCell ⟨b, g, none⟩ (.int .u64 v))) :=
      ⟨⟨b, cap, h.ge, (Below.heap_setCell _ _ _ _ h.ne).trans h.head, h.list.put hg v, h.gb⟩, (Below.refl _ _).setCell h.gb _⟩
    have hp := h.cell
    have hc := h.list.cell hg
    have hz := h.list.free g
    have hgi : (g : Int) < 8 := by omega
    clear h hk hE hR
    go_enter Try.func12, Try.ntmps12
    go_wp2
    go_ret
    exact ⟨rfl, HF.out.1, HF.out.2⟩
/-- The list behind q is another. -/
theorem ref_set {w w1 : World} {base q g c1 b0 cap0 : Nat} {A : Nat → Int} (hq : base ≤ q) (hlt : q < w.heap.size) (h1 : w1.heap[q]? = some (.cells #[.slice (some ⟨b0, 0, none⟩) 8 cap0] 51 (0, 0))) (hl : ListIs w1 g A) (hg : w.heap.size ≤ g) (hbase : base ≤ w.heap.size) (hB : Below w.heap.size w w1) :
    RefIs (w1.setCell ⟨q, 0, none⟩ (.slice (some ⟨g, 0, none⟩) 8 c1)) base q A ∧ Below base w (w1.setCell ⟨q, 0, none⟩ (.slice (some ⟨g, 0, none⟩) 8 c1)) := by
  refine ⟨⟨g, c1, hq, ?_, hl.on (Below.heap_setCell _ _ _ _ (by show g ≠ q; omega)), by omega⟩, (hB.mono hbase).setCell hq _⟩
  rw [heap_setCell_same w1 q 0 _ _ _ h1]
  rfl
/-! ### All, Load -/
set_option maxHeartbeats 1000000 in
theorem rall_any (base q : Nat) (L : Nat → Int) (w : World) (hR : RefIs w base q L) :
    Calls Try.prog 17 #[.pointer (some ⟨q, 0, none⟩)] w fun e w' => ∃ g cap, e = .returned (.slice (some ⟨g, 0, none⟩) 8 cap) ∧ ListIs w' g L ∧ Below w.heap.size w w' := by
  obtain ⟨b, cap, h⟩ := hR
  obtain ⟨it, hi, hz0, hz1, hz2⟩ := info_parts infoWord
  have hp : (w.alloc (.cells #[] 33)).cell? ⟨q, 0, none⟩ = some (.slice (some ⟨b, 0, none⟩) 8 cap) := by rw [World.cell?_alloc_lt _ _ _ h.lt]; exact h.cell
  have HC : Hid (∀ j u, (regL L)[j]? = some u → (w.alloc (.cells #[] 33)).cell? ((⟨b, 0, none⟩ : Addr).add j) = some u) :=
    eight_cells fun j hj => by rw [World.cell?_alloc_lt _ _ _ h.list.lt, Nat.zero_add]; exact h.list.cell hj
  clear h
  go_enter Try.func17, Try.ntmps17
  go_wp2_with (at_builtin; (refine wpList_append_own_at _ rfl _ _ 24 rfl w.heap.size 33 it (.int .u64 0) 1 8 Try.underlying24 hi hz0 hz1 hz2 rfl (by decide) _ _ _ rfl (own_empty w) ⟨b, 0, none⟩ 8 cap (regL L) rfl (regL_len L) HC.out (regL_one L) (by unfold maxLen; omega) (by omega) (by simp) ?_; intro v1 w1 hown hgrow _ _; obtain ⟨g, c1, rfl, hg, hl⟩ := owns_list (L := L) hown; have HL1 : Hid (ListIs w1 g L) := hl; have HB1 : Hid (Below w.heap.size w w1) := ((Below.refl _ w).alloc (Nat.le_refl _) _).grown hgrow (by simp) (own_ge (own_empty w)); clear hown hgrow hl))
  go_ret
  exact ⟨g, c1, rfl, HL1.out, HB1.out⟩
theorem rload_bad (q : Nat) (a : Option Addr) (n c : Nat) (w : World) (hn : n ≠ 8) (hn63 : n ≤ 9223372036854775807) :
    Calls Try.prog 10 #[.pointer (some ⟨q, 0, none⟩), .slice a n c] w fun e w' => e = .returned (.int .i64 1) ∧ w' = w := by
  have hne : ((n : Int) == 8) = false := by simp; omega
  go_enter Try.func10, Try.ntmps10
  go_wp2
  go_ret
  exact ⟨rfl, rfl⟩
set_option maxHeartbeats 1000000 in
theorem rload_ok (base q b off c : Nat) (L A : Nat → Int) (w : World) (hR : RefIs w base q L) (hbase : base ≤ w.heap.size) (hA : ∀ j, j < 8 → w.cell? ⟨b, off + j, none⟩ = some (.int .u64 (A j))) :
    Calls Try.prog 10 #[.pointer (some ⟨q, 0, none⟩), .slice (some ⟨b, off, none⟩) 8 c] w fun e w' => e = .returned (.int .i64 0) ∧ RefIs w' base q A ∧ Below base w w' := by
  obtain ⟨b0, cap0, h⟩ := hR
  obtain ⟨it, hi, hz0, hz1, hz2⟩ := info_parts infoWord
  have HC : Hid (∀ j u, (regL A)[j]? = some u → (w.alloc (.cells #[] 33)).cell? ((⟨b, off, none⟩ : Addr).add j) = some u) :=
    eight_cells fun j hj => by rw [World.cell?_alloc_lt _ _ _ (World.block_lt_of_cell? w _ (hA j hj))]; exact hA j hj
  have HQ : Hid (w.heap[q]? = some (.cells #[.slice (some ⟨b0, 0, none⟩) 8 cap0] 51 (0, 0)) ∧ base ≤ q ∧ q < w.heap.size) := ⟨h.head, h.ge, h.lt⟩
  clear h hA
  go_enter Try.func10, Try.ntmps10
  go_wp2_with (at_builtin; (refine wpList_append_own_at _ rfl _ _ 24 rfl w.heap.size 33 it (.int .u64 0) 1 8 Try.underlying24 hi hz0 hz1 hz2 rfl (by decide) _ _ _ rfl (own_empty w) ⟨b, off, none⟩ 8 c (regL A) rfl (regL_len A) HC.out (regL_one A) (by unfold maxLen; omega) (by omega) (by simp) ?_; intro v1 w1 hown hgrow _ _; obtain ⟨g, c1, rfl, hg, hl⟩ := owns_list (L := A) hown; have HB1 : Hid (Below w.heap.size w w1) := ((Below.refl _ w).alloc (Nat.le_refl _) _).grown hgrow (by simp) (own_ge (own_empty w)); have h1 : w1.heap[q]? = some (.cells #[.slice (some ⟨b0, 0, none⟩) 8 cap0] 51 (0, 0)) := (HB1.out.block q HQ.out.2.2).trans HQ.out.1; have d1 : w1.cell? ⟨q, 0, none⟩ = some (.slice (some ⟨b0, 0, none⟩) 8 cap0) := (by rw [cell_of_row w1 q 0 _ _ _ h1]; rfl); have z1 : w1.frozen? ⟨q, 0, none⟩ = false := frozen_of_row w1 q 0 _ _ h1; have HF : Hid (RefIs (w1.setCell ⟨q, 0, none⟩ (.slice (some ⟨g, 0, none⟩) 8 c1)) base q A ∧ Below base w (w1.setCell ⟨q, 0, none⟩ (.slice (some ⟨g, 0, none⟩) 8 c1))) := (ref_set HQ.out.2.1 HQ.out.2.2 h1 hl hg hbase HB1.out); clear hown hgrow hl h1 HB1))
  go_ret
  exact ⟨rfl, HF.out.1, HF.out.2⟩
end Go.Proofs.Ytnhdlgijjjkmdaa
