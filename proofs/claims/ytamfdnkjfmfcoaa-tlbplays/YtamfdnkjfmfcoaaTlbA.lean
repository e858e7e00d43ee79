/- What Made, Len, Get, Flush of package tlb answer, for every argument that their types allow. -/
import Derived.Test.YtamfdnkjfmfcoaaTlbG
import Derived.ProofKit
import Derived.OpenShut
import Derived.Outline
import Derived.Deep.QuietTactic
import Derived.Deep.RegionHeld3
namespace Go.Proofs.Ytamfdnkjfmfcoaa
open Go.RowKit Go.ChangeMaps
set_option linter.unusedVariables false

/-- One that New made lies behind the pointer to block p; its map in block b. -/
structure TlbIs (w : World) (p b : Nat) (room : Int) (S : List En) : Prop where
  row : w.heap[p]? = some (.cells #[.int .i64 room, .map (some b)] 52 (0, 0))
  map : MapIs w b S
theorem TlbIs.room {w : World} {p b : Nat} {r : Int} {S : List En} (h : TlbIs w p b r S) : w.cell? ⟨p, 0, none⟩ = some (.int .i64 r) := by
  rw [cell_of_row w p 0 _ _ _ h.row]; rfl
theorem TlbIs.ents {w : World} {p b : Nat} {r : Int} {S : List En} (h : TlbIs w p b r S) : w.cell? ⟨p, 1, none⟩ = some (.map (some b)) := by
  rw [cell_of_row w p 1 _ _ _ h.row]; rfl
theorem TlbIs.lt {w : World} {p b : Nat} {r : Int} {S : List En} (h : TlbIs w p b r S) : p < w.heap.size := (Array.getElem?_eq_some_iff.1 h.row).1
theorem TlbIs.ne {w : World} {p b : Nat} {r : Int} {S : List En} (h : TlbIs w p b r S) : p ≠ b := by
  intro e
  obtain ⟨es, clock, hb, _⟩ := h.map
  rw [← e, h.row] at hb
  cases hb
theorem TlbIs.on {w w' : World} {p b : Nat} {r : Int} {S : List En} (h : TlbIs w p b r S) (hp : w'.heap[p]? = w.heap[p]?) (hb : w'.heap[b]? = w.heap[b]?) : TlbIs w' p b r S := ⟨hp.trans h.row, h.map.on hb⟩
theorem TlbIs.below {w w' : World} {B p b : Nat} {r : Int} {S : List En} (h : TlbIs w p b r S) (hB : Below B w w') (hp : p < B) (hb : b < B) : TlbIs w' p b r S := h.on (hB.block p hp) (hB.block b hb)
theorem TlbIs.more {w w' : World} {p b : Nat} {r : Int} {S : List En} (h : TlbIs w p b r S) (hB : Below w.heap.size w w') : TlbIs w' p b r S := h.below hB h.lt h.map.lt
theorem TlbIs.turned {w : World} {p b : Nat} {r : Int} {S S' : List En} (h : TlbIs w p b r S) {o : Obj} (h' : MapIs (setBlock w b o) b S') : TlbIs (setBlock w b o) p b r S' :=
  ⟨(setBlock_other h.map o h.ne).trans h.row, h'⟩

theorem TlbIs.alloc {w : World} {p b : Nat} {r : Int} {S : List En} (h : TlbIs w p b r S) (o : Obj) : TlbIs (w.alloc o) p b r S := h.more ((Below.refl _ _).alloc (Nat.le_refl _) _)
theorem TlbIs.drew {w : World} {p b : Nat} {r : Int} {S : List En} (h : TlbIs w p b r S) : TlbIs w.drew p b r S := h.on rfl rfl

theorem row_new2 (w : World) (o : Obj) (c : Array Value) (t : TypeId) : ((w.alloc o).alloc (.cells c t)).heap[w.heap.size + 1]? = some (.cells c t (0, 0)) := by
  have := heap_alloc_new (w.alloc o) (.cells c t)
  simpa using this
/-- What is written into new blocks alone leaves the old ones. -/
theorem below_size {B : Nat} {a w : World} (h : Below B a w) (hB : B ≤ a.heap.size) : B ≤ w.heap.size := Nat.le_trans hB h.size

/-! ### Made, Len -/
theorem made_some (p b : Nat) (w : World) (hp : w.cell? ⟨p, 1, none⟩ = some (.map (some b))) :
    Calls Try.prog 16 #[.pointer (some ⟨p, 0, none⟩)] w fun e w' => e = .returned (.bool true) ∧ w' = w := by
  have h1 : ∀ w, (binOp .neq 50 (.map (some b)) (.map none)).run Try.prog w = .ok (.bool true) w := fun _ => by kernel_rfl
  go_enter Try.func16, Try.ntmps16
  go_wp2
  go_ret
  exact ⟨rfl, rfl⟩
theorem made_nil (w : World) :
    Calls Try.prog 16 #[.pointer none] w fun e w' => e = .returned (.bool false) ∧ w' = w := by
  go_enter Try.func16, Try.ntmps16
  go_wp2
  go_ret
  exact ⟨rfl, rfl⟩
theorem made_zero (p : Nat) (w : World) (hp : w.cell? ⟨p, 1, none⟩ = some (.map none)) :
    Calls Try.prog 16 #[.pointer (some ⟨p, 0, none⟩)] w fun e w' => e = .returned (.bool false) ∧ w' = w := by
  have h1 : ∀ w, (binOp .neq 50 (.map none) (.map none)).run Try.prog w = .ok (.bool false) w := fun _ => by kernel_rfl
  go_enter Try.func16, Try.ntmps16
  go_wp2
  go_ret
  exact ⟨rfl, rfl⟩
theorem len_some (p b : Nat) (r : Int) (S : List En) (w : World) (h : TlbIs w p b r S) :
    Calls Try.prog 15 #[.pointer (some ⟨p, 0, none⟩)] w fun e w' => e = .returned (.int .i64 S.length) ∧ w' = w := by
  have hp := h.ents
  have hl := fun ty => len_map h.map ty
  go_enter Try.func15, Try.ntmps15
  go_wp2_with (go_at_call 16; refine (made_some p b _ hp).mono ?_; rintro e w' ⟨rfl, rfl⟩)
  go_ret
  exact ⟨rfl, rfl⟩
theorem len_nil (w : World) :
    Calls Try.prog 15 #[.pointer none] w fun e w' => e = .returned (.int .i64 0) ∧ w' = w := by
  go_enter Try.func15, Try.ntmps15
  go_wp2_with (go_at_call 16; refine (made_nil _).mono ?_; rintro e w' ⟨rfl, rfl⟩)
  go_ret
  exact ⟨rfl, rfl⟩
theorem len_zero (p : Nat) (w : World) (hp : w.cell? ⟨p, 1, none⟩ = some (.map none)) :
    Calls Try.prog 15 #[.pointer (some ⟨p, 0, none⟩)] w fun e w' => e = .returned (.int .i64 0) ∧ w' = w := by
  go_enter Try.func15, Try.ntmps15
  go_wp2_with (go_at_call 16; refine (made_zero p _ hp).mono ?_; rintro e w' ⟨rfl, rfl⟩)
  go_ret
  exact ⟨rfl, rfl⟩

/-! ### Get -/
set_option maxHeartbeats 1000000 in
theorem get_any (p b : Nat) (r : Int) (S : List En) (k : Ky) (w : World) (h : TlbIs w p b r S) :
    Calls Try.prog 17 #[.pointer (some ⟨p, 0, none⟩), .agg #[.int .i64 k.1, .int .i64 k.2]] w fun e w' => e = .returned (.tuple #[pv (ptK S k), .bool (hasK S k)]) ∧ Below w.heap.size w w' := by
  have hp := h.ents
  have hlt := h.lt
  have hl : Hid (∀ w', w'.heap[b]? = w.heap[b]? → (Instr.lookup 50 (.map (some b)) (kv k) true).run Try.prog w' = .ok (.tuple #[ev (ptK S k) (tnK S k), .bool (hasK S k)]) w') := fun w' e => look_has (h.map.on e) k
  have hb := h.map.lt
  have H : Hid (TlbIs w p b r S) := h
  obtain ⟨a, c⟩ := k
  obtain ⟨q, hq⟩ : ∃ q, q = ptK S (a, c) := ⟨_, rfl⟩
  obtain ⟨t, ht⟩ : ∃ q, q = tnK S (a, c) := ⟨_, rfl⟩
  obtain ⟨y, hy⟩ : ∃ q, q = hasK S (a, c) := ⟨_, rfl⟩
  rw [← hq, ← ht, ← hy] at hl
  rw [← hq, ← hy]
  clear hq ht hy h
  obtain ⟨q0, q1, q2, q3⟩ := q
  simp only [kv, ev] at hl
  simp only [pv]
  go_enter Try.func17, Try.ntmps17
  go_wp2_with (go_at_call 16; refine (made_some p b _ ((H.out.alloc _).alloc _).ents).mono ?_; rintro e w1 ⟨rfl, hw1⟩; have HW : Hid (w1 = _) := hw1; clear hw1)
  have c1 : w1.cell? ⟨p, 1, none⟩ = some (.map (some b)) := by rw [HW.out]; exact ((H.out.alloc _).alloc _).ents
  have c2 : w1.cell? ⟨w.heap.size, 0, none⟩ = some (.int .i64 a) := by rw [HW.out]; simp
  have c3 : w1.cell? ⟨w.heap.size, 1, none⟩ = some (.int .i64 c) := by rw [HW.out]; simp
  have d0 : w1.cell? ⟨w.heap.size + 1, 0, none⟩ = some (.bool false) := by rw [HW.out]; simp
  have d1 : w1.cell? ⟨w.heap.size + 1, 1, none⟩ = some (.int .i64 0) := by rw [HW.out]; simp
  have d2 : w1.cell? ⟨w.heap.size + 1, 2, none⟩ = some (.int .i64 0) := by rw [HW.out]; simp
  have d3 : w1.cell? ⟨w.heap.size + 1, 3, none⟩ = some (.int .i64 0) := by rw [HW.out]; simp
  have hrow : Hid (w1.heap[w.heap.size + 1]? = some (.cells #[.bool false, .int .i64 0, .int .i64 0, .int .i64 0] 38 (0, 0))) := by rw [HW.out]; exact row_new2 _ _ _ _
  have z0 := frozen_of_row w1 (w.heap.size + 1) 0 _ _ hrow.out
  have z1 := frozen_of_row w1 (w.heap.size + 1) 1 _ _ hrow.out
  have z2 := frozen_of_row w1 (w.heap.size + 1) 2 _ _ hrow.out
  have z3 := frozen_of_row w1 (w.heap.size + 1) 3 _ _ hrow.out
  have HB : Hid (Below w.heap.size w w1) := by rw [HW.out]; exact ((Below.refl w.heap.size w).alloc (Nat.le_refl _) _).alloc (by simp) _
  have HS : Hid (w1.heap.size = w.heap.size + 2) := by
    have : w1.heap.size = w.heap.size + 2 := by rw [HW.out]; simp
    exact this
  have s1 : w.heap.size + 1 < w1.heap.size := by rw [HS.out]; omega
  clear HW hrow
  have n1 := World.new_ne w1 _ c1
  have n2 := World.new_ne w1 _ c2
  have n3 := World.new_ne w1 _ d0
  have hl1 := hl.out w1.drew (HB.out.drew.block b hb)
  have hl2 := hl.out (w1.alloc (.cells #[.bool false, .int .i64 0, .int .i64 0, .int .i64 0, .int .i64 0] 57)).drew
    ((HB.out.alloc (by rw [HS.out]; omega) _).drew.block b hb)
  go_region_held3 (fun w' => w'.cell? ⟨p, 1, none⟩ = some (.map (some b)) ∧ w'.cell? ⟨w.heap.size, 0, none⟩ = some (.int .i64 a) ∧ w'.cell? ⟨w.heap.size, 1, none⟩ = some (.int .i64 c)) (go_keep) (fail)
  all_goals go_wp2
  all_goals
    exact bodyPost_ret (v := .tuple #[.agg #[.bool q0, .int .i64 q1, .int .i64 q2, .int .i64 q3], .bool y]) (by simp [results, Try.results17, go_sem, d0, d1, d2, d3, s1]) rfl
      ⟨rfl, (bal (bst (bst (bst (bst HB.out (by omega) _ _) (by omega) _ _) (by omega) _ _) (by omega) _ _) _).drew⟩
theorem get_nil (k : Ky) (w : World) :
    Calls Try.prog 17 #[.pointer none, .agg #[.int .i64 k.1, .int .i64 k.2]] w fun e w' => e = .returned (.tuple #[pv pt0, .bool false]) ∧ Below w.heap.size w w' := by
  simp only [pv, pt0]
  go_enter Try.func17, Try.ntmps17
  go_wp2_with (go_at_call 16; refine (made_nil _).mono ?_; rintro e w1 ⟨rfl, rfl⟩)
  exact bodyPost_ret (v := .tuple #[.agg #[.bool false, .int .i64 0, .int .i64 0, .int .i64 0], .bool false]) (by simp [results, Try.results17, go_sem]) rfl
      ⟨rfl, by first | exact bal (bal (Below.refl _ _) _) _ | exact (bst (bst (bst (bst (bal (bal (Below.refl _ _) _) _) (by omega) _ _) (by omega) _ _) (by omega) _ _) (by omega) _ _)⟩

/-! ### Flush -/
theorem flush_some (p b : Nat) (r : Int) (S : List En) (w : World) (h : TlbIs w p b r S) :
    Calls Try.prog 10 #[.pointer (some ⟨p, 0, none⟩)] w fun e w' => e = .returned (.int .i64 S.length) ∧ TlbIs w' p b r [] ∧ w'.heap.size = w.heap.size ∧ ∀ B, B ≤ b → Below B w w' := by
  have hp := h.ents
  obtain ⟨o, hc, hm⟩ := clear_map h.map
  have HM : Hid (MapIs (setBlock w b o) b []) := hm
  have H : Hid (TlbIs w p b r S) := h
  clear hm h
  have hl0 : (0 : Int) ≤ S.length := by omega
  by_cases h0 : S.length = 0
  · have HE : Hid (S = []) := List.eq_nil_of_length_eq_zero h0
    have h1 : ¬ (0 : Int) < S.length := by omega
    clear h0
    go_enter Try.func10, Try.ntmps10
    go_wp2_with (go_at_call 15; refine (len_some p b r S _ H.out).mono ?_; rintro e w' ⟨rfl, rfl⟩)
    go_ret
    exact ⟨rfl, HE.out ▸ H.out, rfl, fun B _ => Below.refl _ _⟩
  · have h1 : (0 : Int) < S.length := by omega
    clear h0
    go_enter Try.func10, Try.ntmps10
    go_wp2_with (go_at_call 15; refine (len_some p b r S _ H.out).mono ?_; rintro e w' ⟨rfl, rfl⟩)
    go_ret
    exact ⟨rfl, H.out.turned HM.out, setBlock_size _ _ _, fun B hB => below_setBlock (Below.refl _ _) hB _⟩
theorem flush_zero (p : Nat) (w : World) (hp : w.cell? ⟨p, 1, none⟩ = some (.map none)) :
    Calls Try.prog 10 #[.pointer (some ⟨p, 0, none⟩)] w fun e w' => e = .returned (.int .i64 0) ∧ w' = w := by
  go_enter Try.func10, Try.ntmps10
  go_wp2_with (go_at_call 15; refine (len_zero p _ hp).mono ?_; rintro e w' ⟨rfl, rfl⟩)
  go_ret
  exact ⟨rfl, rfl⟩
end Go.Proofs.Ytamfdnkjfmfcoaa
