/- What Check of package head answers, for every head; the table of widths; a head in a block. -/
import Derived.Test.YtlpnnpapeoahkaaDoorHdG
import Derived.Below
import Derived.OwnWalk
import Derived.Laws.Rows
import Derived.BigRegion
import Derived.Deep.RegionHeld3
namespace Go.Proofs.YtlpnnpapeoahkaaDoor
open Go.RowKit M
set_option linter.unusedVariables false

theorem bal {w x : World} (h : Below w.heap.size w x) (o : Obj) : Below w.heap.size w (x.alloc o) := h.alloc h.size o
theorem bst {w x : World} (h : Below w.heap.size w x) {b : Nat} (hp : w.heap.size ≤ b) (j : Nat) (v : Value) : Below w.heap.size w (x.setCell ⟨b, j, none⟩ v) := h.setCell (p := ⟨b, j, none⟩) hp v
theorem below_drew' (B : Nat) (w : World) (n : Nat) : Below B w (w.drewN n) := ⟨rfl, rfl, rfl, Nat.le_refl _, fun _ _ => rfl⟩
/-- The table of widths. -/
structure TabW (w : World) : Prop where
  lt : 0 < w.heap.size
  row : ∃ t fr, w.heap[(0 : Nat)]? = some (.cells #[.int .i64 4, .int .i64 1, .int .i64 1] t fr)
theorem TabW.on {w w' : World} (h : TabW w) (hB : Below w.heap.size w w') : TabW w' :=
  ⟨Nat.lt_of_lt_of_le h.lt hB.size, by obtain ⟨t, fr, hr⟩ := h.row; exact ⟨t, fr, (hB.block 0 h.lt).trans hr⟩⟩
/-- A head in a block. -/
structure Box4 (w : World) (B : Nat) (k l : Int) (z : Bool) (t : Int) : Prop where
  lt : B < w.heap.size
  c0 : w.cell? ⟨B, 0, none⟩ = some (.int .i64 k)
  c1 : w.cell? ⟨B, 1, none⟩ = some (.int .i64 l)
  c2 : w.cell? ⟨B, 2, none⟩ = some (.bool z)
  c3 : w.cell? ⟨B, 3, none⟩ = some (.int .i64 t)
  fz : ∀ j, w.frozen? ⟨B, j, none⟩ = false
theorem Box4.on {w w' : World} {B : Nat} {k l t : Int} {z : Bool} (h : Box4 w B k l z t) (hB : Below w.heap.size w w') : Box4 w' B k l z t :=
  ⟨Nat.lt_of_lt_of_le h.lt hB.size, (hB.cell (p := ⟨B, 0, none⟩) h.lt).trans h.c0, (hB.cell (p := ⟨B, 1, none⟩) h.lt).trans h.c1, (hB.cell (p := ⟨B, 2, none⟩) h.lt).trans h.c2, (hB.cell (p := ⟨B, 3, none⟩) h.lt).trans h.c3, fun j => (hB.frozen (p := ⟨B, j, none⟩) h.lt).trans (h.fz j)⟩
theorem box4_new (w : World) (k l : Int) (z : Bool) (t : Int) (ty : TypeId) : Box4 (w.alloc (.cells #[.int .i64 k, .int .i64 l, .bool z, .int .i64 t] ty)) w.heap.size k l z t := by
  have h := heap_alloc_new w (.cells #[.int .i64 k, .int .i64 l, .bool z, .int .i64 t] ty)
  refine ⟨by simp, ?_, ?_, ?_, ?_, fun j => frozen_of_row _ _ _ _ _ h⟩ <;> (rw [cell_of_row _ _ _ _ _ _ h]; rfl)

/-! ### Check -/
def lvl (k : Int) : Int := if k = 1 ∨ k = 2 then 1 else 0
theorem level_any (k : Int) (w : World) : Calls Tryd.prog 32 #[.int .i64 k] w fun e w' => e = .returned (.int .i64 (lvl k)) ∧ w' = w := by
  by_cases h1 : k = 1
  · subst h1
    go_enter Tryd.func32, Tryd.ntmps32
    go_wp2
    go_ret
    exact ⟨rfl, rfl⟩
  by_cases h2 : k = 2
  · subst h2
    go_enter Tryd.func32, Tryd.ntmps32
    go_wp2
    go_ret
    exact ⟨rfl, rfl⟩
  have b1 : (k == 1) = false := by simp [h1]
  have b2 : (k == 2) = false := by simp [h2]
  rw [show lvl k = 0 by simp [lvl, h1, h2]]
  go_enter Tryd.func32, Tryd.ntmps32
  go_wp2
  go_ret
  exact ⟨rfl, rfl⟩
def tim : Bool → Int
  | true => 1073741824
  | false => 0
theorem time_any (z : Bool) (w : World) : Calls Tryd.prog 33 #[.bool z] w fun e w' => e = .returned (.int .i64 (tim z)) ∧ w' = w := by
  cases z
  · go_enter Tryd.func33, Tryd.ntmps33
    go_wp2
    go_ret
    exact ⟨rfl, rfl⟩
  · go_enter Tryd.func33, Tryd.ntmps33
    go_wp2
    go_ret
    exact ⟨rfl, rfl⟩
theorem rt_of {k l t : Int} {z : Bool} (h0 : 0 ≤ k) (h1 : k ≤ 6) (h2 : 0 ≤ l) (h3 : l ≤ lvl k) (h4 : z = true → k = 1) (h5 : 0 ≤ t) (h6 : t ≤ tim z) : Rt k l z t := by
  unfold Rt
  cases z
  · simp only [tim] at h6
    unfold lvl at h3
    split at h3 <;> simp <;> omega
  · simp only [tim] at h6
    unfold lvl at h3
    have := h4 rfl
    split at h3 <;> simp <;> omega
theorem rt_parts {k l t : Int} {z : Bool} (h : Rt k l z t) : 0 ≤ k ∧ k ≤ 6 ∧ 0 ≤ l ∧ l ≤ lvl k ∧ (z = true → k = 1) ∧ 0 ≤ t ∧ t ≤ tim z := by
  unfold Rt at h
  obtain ⟨h1, h2, h3, h4, h5, h6, h7, h8, h9⟩ := h
  refine ⟨h1, h2, h3, ?_, h6, h7, ?_⟩
  · unfold lvl
    split <;> omega
  · cases z
    · exact Int.le_of_eq (h9 rfl)
    · exact h8
theorem box4_drew (w : World) (k l : Int) (z : Bool) (t : Int) (ty : TypeId) (n : Nat) : Box4 ((w.alloc (.cells #[.int .i64 k, .int .i64 l, .bool z, .int .i64 t] ty)).drewN n) w.heap.size k l z t ∧ Below w.heap.size w ((w.alloc (.cells #[.int .i64 k, .int .i64 l, .bool z, .int .i64 t] ty)).drewN n) :=
  ⟨(box4_new w k l z t ty).on (below_drew' _ _ _), (bal (Below.refl _ _) _).trans (below_drew' _ _ _)⟩
set_option maxRecDepth 100000 in
set_option maxHeartbeats 1000000 in
theorem check_any (k l : Int) (z : Bool) (t : Int) (w : World) :
    Calls Tryd.prog 11 #[.agg #[.int .i64 k, .int .i64 l, .bool z, .int .i64 t]] w fun e w' => e = .returned (.int .i64 (chk k l z t)) ∧ Below w.heap.size w w' := by
  have HI : Hid (∀ ty n, Box4 ((w.alloc (.cells #[.int .i64 k, .int .i64 l, .bool z, .int .i64 t] ty)).drewN n) w.heap.size k l z t ∧ Below w.heap.size w ((w.alloc (.cells #[.int .i64 k, .int .i64 l, .bool z, .int .i64 t] ty)).drewN n)) := fun ty n => box4_drew w k l z t ty n
  by_cases h0 : k < 0
  · rw [chk_no fun h => by have := rt_parts h; omega]
    go_enter Tryd.func11, Tryd.ntmps11
    go_wp2
    go_ret
    exact ⟨rfl, bal (Below.refl _ _) _⟩
  by_cases h1 : 6 < k
  · rw [chk_no fun h => by have := rt_parts h; omega]
    go_enter Tryd.func11, Tryd.ntmps11
    go_wp2
    go_ret
    exact ⟨rfl, bal (Below.refl _ _) _⟩
  by_cases h2 : l < 0
  · rw [chk_no fun h => by have := rt_parts h; omega]
    go_enter Tryd.func11, Tryd.ntmps11
    go_wp2
    go_quiet (fail)
    go_wp2
    go_ret
    exact ⟨rfl, (bal (Below.refl _ _) _).trans (below_drew' _ _ _)⟩
  have d2 : decide (l < 0) = false := decide_eq_false h2
  obtain ⟨L, hL⟩ : ∃ L, L = lvl k := ⟨_, rfl⟩
  have HL : Hid (∀ w1, Calls Tryd.prog 32 #[.int .i64 k] w1 fun e w' => e = .returned (.int .i64 L) ∧ w' = w1) := fun w1 => by rw [hL]; exact level_any k w1
  by_cases h3 : L < l
  · rw [chk_no fun h => by have := rt_parts h; omega]
    clear hL
    go_enter Tryd.func11, Tryd.ntmps11
    go_wp2
    go_quiet ((go_at_call 32; exact Calls.quiet_of_same (HL.out _)))
    go_wp2
    go_ret
    exact ⟨rfl, (bal (Below.refl _ _) _).trans (below_drew' _ _ _)⟩
  have d3 : decide (L < l) = false := decide_eq_false h3
  by_cases h4 : z = true ∧ k ≠ 1
  · obtain ⟨rfl, h5⟩ := h4
    rw [chk_no fun h => h5 ((rt_parts h).2.2.2.2.1 rfl)]
    have b5 : (k != 1) = true := by simp [h5]
    clear hL
    go_enter Tryd.func11, Tryd.ntmps11
    go_wp2
    go_quiet ((go_at_call 32; exact Calls.quiet_of_same (HL.out _)))
    go_wp2
    go_ret
    exact ⟨rfl, (bal (Below.refl _ _) _).trans (below_drew' _ _ _)⟩
  by_cases h6 : t < 0
  · rw [chk_no fun h => by have := rt_parts h; omega]
    clear hL
    cases z
    · clear h4
      go_enter Tryd.func11, Tryd.ntmps11
      go_wp2
      go_quiet ((go_at_call 32; exact Calls.quiet_of_same (HL.out _)))
      have X := HI.out 33 nq
      generalize World.drewN _ nq = wq at X ⊢
      have HX : Hid (Below w.heap.size w wq) := X.2
      have x0 := X.1.c0
      have x1 := X.1.c1
      have x2 := X.1.c2
      have x3 := X.1.c3
      clear X HI
      go_wp2
      go_quiet (fail)
      go_wp2
      go_ret
      exact ⟨rfl, HX.out.trans (below_drew' _ _ _)⟩
    · have h5 : k = 1 := by simpa using h4
      clear h4
      subst h5
      go_enter Tryd.func11, Tryd.ntmps11
      go_wp2
      go_quiet ((go_at_call 32; exact Calls.quiet_of_same (HL.out _)))
      have X := HI.out 33 nq
      generalize World.drewN _ nq = wq at X ⊢
      have HX : Hid (Below w.heap.size w wq) := X.2
      have x0 := X.1.c0
      have x1 := X.1.c1
      have x2 := X.1.c2
      have x3 := X.1.c3
      clear X HI
      go_wp2
      go_quiet (fail)
      go_wp2
      go_ret
      exact ⟨rfl, HX.out.trans (below_drew' _ _ _)⟩
  have d6 : decide (t < 0) = false := decide_eq_false h6
  obtain ⟨T, hT⟩ : ∃ T, T = tim z := ⟨_, rfl⟩
  have HT : Hid (∀ w1, Calls Tryd.prog 33 #[.bool z] w1 fun e w' => e = .returned (.int .i64 T) ∧ w' = w1) := fun w1 => by rw [hT]; exact time_any z w1
  by_cases h7 : T < t
  · rw [chk_no fun h => by have := rt_parts h; omega]
    clear hL hT
    cases z
    · clear h4
      go_enter Tryd.func11, Tryd.ntmps11
      go_wp2
      go_quiet ((go_at_call 32; exact Calls.quiet_of_same (HL.out _)))
      have X := HI.out 33 nq
      generalize World.drewN _ nq = wq at X ⊢
      have HX : Hid (Below w.heap.size w wq) := X.2
      have x0 := X.1.c0
      have x1 := X.1.c1
      have x2 := X.1.c2
      have x3 := X.1.c3
      clear X HI
      go_wp2
      go_quiet ((go_at_call 33; exact Calls.quiet_of_same (HT.out _)))
      go_wp2
      go_ret
      exact ⟨rfl, HX.out.trans (below_drew' _ _ _)⟩
    · have h5 : k = 1 := by simpa using h4
      clear h4
      subst h5
      go_enter Tryd.func11, Tryd.ntmps11
      go_wp2
      go_quiet ((go_at_call 32; exact Calls.quiet_of_same (HL.out _)))
      have X := HI.out 33 nq
      generalize World.drewN _ nq = wq at X ⊢
      have HX : Hid (Below w.heap.size w wq) := X.2
      have x0 := X.1.c0
      have x1 := X.1.c1
      have x2 := X.1.c2
      have x3 := X.1.c3
      clear X HI
      go_wp2
      go_quiet ((go_at_call 33; exact Calls.quiet_of_same (HT.out _)))
      go_wp2
      go_ret
      exact ⟨rfl, HX.out.trans (below_drew' _ _ _)⟩
  have d7 : decide (T < t) = false := decide_eq_false h7
  rw [chk_yes (rt_of (by omega) (by omega) (by omega) (by omega) (fun e => by simpa [e] using h4) (by omega) (by omega))]
  clear hL hT
  cases z
  · clear h4
    go_enter Tryd.func11, Tryd.ntmps11
    go_wp2
    go_quiet ((go_at_call 32; exact Calls.quiet_of_same (HL.out _)))
    have X := HI.out 33 nq
    generalize World.drewN _ nq = wq at X ⊢
    have HX : Hid (Below w.heap.size w wq) := X.2
    have x0 := X.1.c0
    have x1 := X.1.c1
    have x2 := X.1.c2
    have x3 := X.1.c3
    clear X HI
    go_wp2
    go_quiet ((go_at_call 33; exact Calls.quiet_of_same (HT.out _)))
    go_wp2
    go_ret
    exact ⟨rfl, HX.out.trans (below_drew' _ _ _)⟩
  · have h5 : k = 1 := by simpa using h4
    clear h4
    subst h5
    go_enter Tryd.func11, Tryd.ntmps11
    go_wp2
    go_quiet ((go_at_call 32; exact Calls.quiet_of_same (HL.out _)))
    have X := HI.out 33 nq
    generalize World.drewN _ nq = wq at X ⊢
    have HX : Hid (Below w.heap.size w wq) := X.2
    have x0 := X.1.c0
    have x1 := X.1.c1
    have x2 := X.1.c2
    have x3 := X.1.c3
    clear X HI
    go_wp2
    go_quiet ((go_at_call 33; exact Calls.quiet_of_same (HT.out _)))
    go_wp2
    go_ret
    exact ⟨rfl, HX.out.trans (below_drew' _ _ _)⟩
end Go.Proofs.YtlpnnpapeoahkaaDoor
